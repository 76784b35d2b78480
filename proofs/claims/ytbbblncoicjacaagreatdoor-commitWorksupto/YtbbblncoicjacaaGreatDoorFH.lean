
-- The statements' has.
import Derived.Test.YtbbblncoicjacaaGreatDoorFD
namespace Go.Proofs.YtbbblncoicjacaaGreatDoor
open Go.ChangeShapes Go.WideShapes Go.ChangeAt Go.RowKit
set_option linter.unusedVariables false
set_option linter.unusedSimpArgs false
set_option maxRecDepth 100000
def lastIs (l : List Fil) (x : Fil) : Bool := match l.getLast? with | some y => decide (y = x) | none => false
theorem lastIs_snoc (l : List Fil) (y x : Fil) : lastIs (l ++ [y]) x = decide (y = x) := by unfold lastIs; simp
theorem only_is (l : List Fil) (x : Fil) : (decide ((l.length : Int) = 1) && lastIs l x) = decide (l = [x]) := by
  match l with
  | [] => simp
  | [y] => simp [lastIs]
  | y :: z :: r =>
    have h : decide (((y :: z :: r).length : Int) = 1) = false := decide_eq_false (by simp; omega)
    rw [h]; simp
def hasF (L : List Fil) (x : Fil) : Bool := decide (thatF L x.1 = [x])
set_option maxHeartbeats 4000000 in
theorem hasF_c (v1 : Value) (L : List Fil) (nm : ByteArray) (n0 n1 n2 n3 : Int) (da : ByteArray) (w : World) (h1 : RowF w v1 L) (hn : L.length ≤ 67108864) :
    Calls Tryz.prog 16 #[v1, .agg #[.string nm, .int .i64 n0, .int .i64 n1, .int .i64 n2, .int .i64 n3, .string da]] w fun e w' => e = .returned (.bool (hasF L (nm, (n0, n1, n2, n3), da))) ∧ Below w.heap.size w w' := by
  obtain ⟨a1, c1, q1, _, _⟩ := h1.form
  obtain ⟨n, hnn⟩ : ∃ n, n = L.length := ⟨_, rfl⟩
  obtain ⟨X, hX⟩ : ∃ X, X = Obj.cells #[.string nm, .int .i64 n0, .int .i64 n1, .int .i64 n2, .int .i64 n3, .string da] 26 := ⟨_, rfl⟩
  have hbA : Below w.heap.size w (w.alloc X) := (Below.refl _ w).alloc (Nat.le_refl _) X
  have hbx : (w.alloc X).heap[w.heap.size]? = some X := heap_alloc_new w X
  have hsx : (w.alloc X).heap.size = w.heap.size + 1 := by simp
  have HN := hidK hnn
  have HQ1 := hidK (h1.on hbA)
  have HBA : Hid (∀ W, Below (w.alloc X).heap.size (w.alloc X) W → Below w.heap.size w W) := fun W hb => hbA.trans (hb.mono (by omega))
  have HBX : Hid (∀ W, Below (w.alloc X).heap.size (w.alloc X) W → W.heap[w.heap.size]? = some (.cells #[.string nm, .int .i64 n0, .int .i64 n1, .int .i64 n2, .int .i64 n3, .string da] 26 (0, 0))) := fun W hb => by
    rw [hb.block _ (by omega), hbx, hX]
  subst q1
  rw [← hnn] at hn HQ1 ⊢
  clear h1 hnn hbx hsx hbA
  go_enter Tryz.func16, Tryz.ntmps16
  go_wp2
  rw [← hX]
  go_loopw [5, 6, 7] (fun c o i wx => ∃ k : Nat, i = .int .i64 k ∧ k ≤ n ∧ c = .int .i64 (thatF (L.take k) nm).length ∧ o = .bool (lastIs (thatF (L.take k) nm) (nm, (n0, n1, n2, n3), da)) ∧ Below (w.alloc X).heap.size (w.alloc X) wx) (fun _ _ i _ => n - (intOf i).toNat)
  case atStart => exact ⟨0, rfl, Nat.zero_le _, rfl, rfl, Below.refl _ _⟩
  case round =>
    obtain ⟨k, rfl, hkn, rfl, rfl, hB⟩ := hrel
    by_cases hk : k < n
    · have kI : (k : Int) < (n : Int) := by omega
      have k0 : (0 : Int) ≤ (k : Int) := by omega
      have hkl : k < L.length := by have := HN.out; omega
      obtain ⟨⟨nn, ⟨m0, m1, m2, m3⟩, dt⟩, hx⟩ : ∃ x, L[k]? = some x := ⟨_, List.getElem?_eq_getElem hkl⟩
      have HOT := hidK (that_take L nm k _ hx)
      have hll : (thatF (L.take k) nm).length ≤ 67108864 := by
        have h1 : (thatF (L.take k) nm).length ≤ (L.take k).length := List.length_filter_le _ _
        have h2 : (L.take k).length ≤ k := by rw [List.length_take]; omega
        omega
      obtain ⟨b1, o1, p1, e1, d0, d1, d2, d3, d4, d5⟩ := (HQ1.out.on hB).fil hx
      have hbx := HBX.out _ hB
      have f0 := Lib.cell_of_heap hbx (0 : Nat)
      have f1 := Lib.cell_of_heap hbx (1 : Nat)
      have f2 := Lib.cell_of_heap hbx (2 : Nat)
      have f3 := Lib.cell_of_heap hbx (3 : Nat)
      have f4 := Lib.cell_of_heap hbx (4 : Nat)
      have f5 := Lib.cell_of_heap hbx (5 : Nat)
      simp only [List.getElem?_toArray, List.getElem?_cons_zero, List.getElem?_cons_succ] at f0 f1 f2 f3 f4 f5
      injection e1 with e1 e1b e1c
      subst e1
      obtain ⟨M, hM⟩ : ∃ M, M = thatF (L.take k) nm := ⟨_, rfl⟩
      rw [← hM] at hll HOT ⊢
      obtain ⟨c, hc⟩ : ∃ c, c = M.length := ⟨_, rfl⟩
      obtain ⟨o, ho⟩ : ∃ o, o = lastIs M (nm, (n0, n1, n2, n3), da) := ⟨_, rfl⟩
      rw [← hc] at hll
      have HC := hidK hc
      have HOO := hidK ho
      rw [← hc, ← ho]
      clear hx HQ1 hkl e1b e1c hM hbx hc ho
      by_cases hne : nn = nm
      · have HH : Hid (thatF (L.take (k + 1)) nm = M ++ [(nn, (m0, m1, m2, m3), dt)]) := by
          have := HOT.out; rw [if_pos hne] at this; exact this
        have bq : (nn.toList == nm.toList) = true := by rw [beq_toList]; exact decide_eq_true hne
        have hE := eqFil nn nm m0 m1 m2 m3 n0 n1 n2 n3 dt da
        obtain ⟨t, ht⟩ : ∃ t, t = decide ((nn, (m0, m1, m2, m3), dt) = (nm, (n0, n1, n2, n3), da)) := ⟨_, rfl⟩
        rw [← ht] at hE
        have HTT := hidK ht
        clear hne HOT ht
        go_wp2_with fail
        go_quiet (fail)
        have hB2 := belDrewN hB nq
        go_wp2_with fail
        go_quiet (fail)
        have hB3 := belDrewN hB2 nq
        go_wp2
        have HL : Hid ((M ++ [(nn, (m0, m1, m2, m3), dt)]).length = c + 1) := by show _ = _; rw [List.length_append, ← HC.out]; rfl
        go_roundw
        case rel => exact ⟨k + 1, by go_num, by omega, by rw [HH.out, HL.out]; first | rfl | (push_cast; rfl) | go_num, by rw [HH.out, lastIs_snoc, ← HTT.out], belDrewN hB _⟩
        case measure => simp [intOf]; omega
      · have HH : Hid (thatF (L.take (k + 1)) nm = M) := by
          have := HOT.out; rw [if_neg hne, List.append_nil] at this; exact this
        have bq : (nn.toList == nm.toList) = false := by rw [beq_toList]; exact decide_eq_false hne
        have bq2 : ¬ nn.toList = nm.toList := fun e => hne ((tl_iff _ _).1 e)
        clear hne HOT
        go_wp2_with fail
        go_quiet (fail)
        have hB2 := belDrewN hB nq
        go_wp2
        go_roundw
        case rel => exact ⟨k + 1, by go_num, by omega, by rw [HH.out, HC.out], by rw [HH.out, HOO.out], hB2⟩
        case measure => simp [intOf]; omega
    · obtain rfl : k = n := by omega
      have hall : L.take k = L := by rw [HN.out]; exact List.take_length
      rw [hall]
      have HE := hidK (only_is (thatF L nm) (nm, (n0, n1, n2, n3), da))
      clear HQ1
      by_cases hl1 : ((thatF L nm).length : Int) = 1
      · have HR : Hid (hasF L (nm, (n0, n1, n2, n3), da) = lastIs (thatF L nm) (nm, (n0, n1, n2, n3), da)) := by
          show _ = _
          unfold hasF
          rw [← HE.out, decide_eq_true hl1, Bool.true_and]
        have b1 : (((thatF L nm).length : Int) == 1) = true := by simpa using hl1
        go_wp2
        go_ret
        exact ⟨by rw [HR.out]; rfl, HBA.out _ hB⟩
      · have HR : Hid (hasF L (nm, (n0, n1, n2, n3), da) = false) := by
          show _ = _
          unfold hasF
          rw [← HE.out, decide_eq_false hl1, Bool.false_and]
        have b1 : (((thatF L nm).length : Int) == 1) = false := by simpa using hl1
        go_wp2
        go_ret
        exact ⟨by rw [HR.out]; rfl, HBA.out _ hB⟩
end Go.Proofs.YtbbblncoicjacaaGreatDoor
