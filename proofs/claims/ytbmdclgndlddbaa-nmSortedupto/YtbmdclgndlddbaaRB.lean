
-- The document's merged, ordered.
import Derived.Test.YtbmdclgndlddbaaRA
import Derived.Shelf.SlSortCmp.QuietGrown
namespace Go.Proofs.Ytbmdclgndlddbaa
open Go.ChangeShapes Go.WideShapes Go.ChangeAt Go.RowKit Go.Sort
set_option linter.unusedVariables false
set_option maxRecDepth 100000
theorem mrg_pushA {α : Type} {lt : α → α → Bool} {A B : List α} {i j : Nat} {a b : α} (ha : A[i]? = some a) (hb : B[j]? = some b) (h : lt b a = false) : mrg lt (A.drop i) (B.drop j) = a :: mrg lt (A.drop (i + 1)) (B.drop j) := by
  rw [drop_cons' ha, drop_cons' hb, mrg_no h]
theorem mrg_pushB {α : Type} {lt : α → α → Bool} {A B : List α} {i j : Nat} {b : α} (hb : B[j]? = some b) (h : A.length ≤ i ∨ ∃ a, A[i]? = some a ∧ lt b a = true) : mrg lt (A.drop i) (B.drop j) = b :: mrg lt (A.drop i) (B.drop (j + 1)) := by
  rcases h with h | ⟨a, ha, h⟩
  · rw [List.drop_of_length_le h, mrg_nilL, mrg_nilL, drop_cons' hb]
  · rw [drop_cons' hb, drop_cons' ha, mrg_yes h]
/-- what is put out so far, and what is left -/
def MgI (num : Bool) (A B O : List Rw) (i j : Nat) : Prop := O ++ mrg (ltR num) (A.drop i) (B.drop j) = mrg (ltR num) A B
theorem MgI.pushA {num : Bool} {A B O : List Rw} {i j : Nat} {a b : Rw} (h : MgI num A B O i j) (ha : A[i]? = some a) (hb : B[j]? = some b) (hl : ltR num b a = false) : MgI num A B (O ++ [a]) (i + 1) j := by
  unfold MgI at *
  rw [mrg_pushA ha hb hl] at h
  rw [← h]; simp
theorem MgI.pushB {num : Bool} {A B O : List Rw} {i j : Nat} {b : Rw} (h : MgI num A B O i j) (hb : B[j]? = some b) (hl : A.length ≤ i ∨ ∃ a, A[i]? = some a ∧ ltR num b a = true) : MgI num A B (O ++ [b]) i (j + 1) := by
  unfold MgI at *
  rw [mrg_pushB hb hl] at h
  rw [← h]; simp
theorem MgI.rest {num : Bool} {A B O : List Rw} {i j : Nat} {a : Rw} (h : MgI num A B O i j) (hj : B.length ≤ j) (ha : A[i]? = some a) : MgI num A B (O ++ [a]) (i + 1) j := by
  unfold MgI at *
  rw [List.drop_of_length_le hj, mrg_nilR, drop_cons' ha] at h
  rw [List.drop_of_length_le hj, mrg_nilR, ← h]; simp
theorem MgI.done {num : Bool} {A B O : List Rw} {i j : Nat} (h : MgI num A B O i j) (hj : B.length ≤ j) (hi : A.length ≤ i) : O = mrg (ltR num) A B := by
  unfold MgI at h
  rw [List.drop_of_length_le hj, mrg_nilR, List.drop_of_length_le hi, List.append_nil] at h
  exact h
theorem MgI.len {num : Bool} {A B O : List Rw} {i j : Nat} (h : MgI num A B O i j) : O.length ≤ A.length + B.length := by
  have h1 := congrArg List.length h
  rw [List.length_append, mrg_len _ _ _ (Nat.le_refl _), mrg_len _ _ _ (Nat.le_refl _)] at h1
  omega
set_option maxHeartbeats 16000000 in
theorem merged_c (num : Bool) (v u : Value) (A B : List Rw) (w : World) (hA : RowG rwL w v A) (hB : RowG rwL w u B) (na : A.length ≤ 1048576) (nb : B.length ≤ 1048576) :
    Calls Try.prog 25 #[v, u, .bool num] w fun e w' => ∃ a l c, e = .returned (.slice a l c) ∧ OwR (fun b => w.heap.size ≤ b) w' (.slice a l c) (mrg (ltR num) A B) ∧ Below w.heap.size w w' := by
  obtain ⟨a1, c1, q1, _, _⟩ := hA.form
  obtain ⟨a2, c2, q2, _, _⟩ := hB.form
  obtain ⟨n, hnn⟩ : ∃ n, n = A.length := ⟨_, rfl⟩
  obtain ⟨m, hmm⟩ : ∃ n, n = B.length := ⟨_, rfl⟩
  have HN := hidK hnn
  have HM := hidK hmm
  have HVA := hidK hA
  have HVB := hidK hB
  subst q1 q2
  rw [← hnn] at na HVA ⊢
  rw [← hmm] at nb HVB ⊢
  have HAH : Hid (∀ (x y : Rw) (W : World), Calls Try.prog 28 #[rwV x, rwV y, .bool num] W fun e w' => e = .returned (.bool (ltR num x y)) ∧ Gr W w') := fun x y W => rahead_c num x y W
  unfold rwV at HAH
  have mixed : Try.prog.follows .mixedOrders = true := by kernel_rfl
  clear hA hB hnn hmm
  go_enter Try.func25, Try.ntmps25
  go_wp2
  go_loopw [7, 8, 9] (fun o vi vj wx => ∃ (i j : Nat) (a : Option Addr) (l c : Nat) (O : List Rw), vi = .int .i64 i ∧ vj = .int .i64 j ∧ i ≤ n ∧ j ≤ m ∧ o = .slice a l c ∧ OwR (fun b => w.heap.size ≤ b) wx (.slice a l c) O ∧ Hid (MgI num A B O i j) ∧ Below w.heap.size w wx) (fun _ _ vj _ => m - (intOf vj).toNat)
  case atStart => exact ⟨0, 0, none, 0, 0, [], rfl, rfl, Nat.zero_le _, Nat.zero_le _, rfl, OwnF.nil, (by show [] ++ mrg (ltR num) (A.drop 0) (B.drop 0) = _; rfl), Below.refl _ _⟩
  case round =>
    obtain ⟨i, j, ao, lo, co, O, rfl, rfl, hin, hjm, rfl, ho, HMG, hb⟩ := hrel
    have HO := hidK ho
    have HB0 := hidK hb
    clear ho hb
    by_cases hj : j < m
    · have jI : (j : Int) < (m : Int) := by omega
      have j0 : (0 : Int) ≤ (j : Int) := by omega
      have jw : IntKind.i64.wrap ((j : Int) + 1) = (j : Int) + 1 := by rw [IntKind.wrap_i64]; omega
      obtain ⟨y, hy⟩ : ∃ x, B[j]? = some x := ⟨_, List.getElem?_eq_getElem (by have := HM.out; omega)⟩
      have HY := hidK hy
      clear hy
      go_wp2
      go_loopw [7, 8] (fun o vi wx => ∃ (i : Nat) (a : Option Addr) (l c : Nat) (O : List Rw), vi = .int .i64 i ∧ i ≤ n ∧ o = .slice a l c ∧ OwR (fun b => w.heap.size ≤ b) wx (.slice a l c) O ∧ Hid (MgI num A B O i j) ∧ Below w.heap.size w wx) (fun _ vi _ => n - (intOf vi).toNat)
      case atStart => exact ⟨i, ao, lo, co, O, rfl, hin, rfl, HO.out, HMG, HB0.out⟩
      case round =>
        obtain ⟨i, ai, li, ci, O, rfl, hin, rfl, ho, HMG, hb⟩ := hrel
        have HO := hidK ho
        have HB1 := hidK hb
        obtain ⟨bB, oB, pB, eB, f0, f1, f2, f3, f4, f5, f6, f7⟩ := (HVB.out.on hb).rw HY.out
        injection eB with eB eBb eBc
        subst eB
        have HF : Hid (∀ W, Below wr.heap.size wr W → W.cell? ⟨bB, oB + j * 8, none⟩ = some (.string y.nm) ∧ W.cell? ⟨bB, oB + j * 8 + 1, none⟩ = some (.int .i64 y.bd) ∧ W.cell? ⟨bB, oB + j * 8 + 2, none⟩ = some (.int .i64 y.ty) ∧ W.cell? ⟨bB, oB + j * 8 + 3, none⟩ = some (.int .i64 y.ot) ∧ W.cell? ⟨bB, oB + j * 8 + 4, none⟩ = some (.int .i64 y.sc) ∧ W.cell? ⟨bB, oB + j * 8 + 5, none⟩ = some (.int .u64 y.va) ∧ W.cell? ⟨bB, oB + j * 8 + 6, none⟩ = some (.int .u64 y.sz) ∧ W.cell? ⟨bB, oB + j * 8 + 7, none⟩ = some (.int .u8 y.lt)) := fun W h => ⟨cell_onG f0 h, cell_onG f1 h, cell_onG f2 h, cell_onG f3 h, cell_onG f4 h, cell_onG f5 h, cell_onG f6 h, cell_onG f7 h⟩
        clear eBb eBc
        by_cases hi : i < n
        · have iI : (i : Int) < (n : Int) := by omega
          have i0 : (0 : Int) ≤ (i : Int) := by omega
          have iw : IntKind.i64.wrap ((i : Int) + 1) = (i : Int) + 1 := by rw [IntKind.wrap_i64]; omega
          obtain ⟨x, hx⟩ : ∃ x, A[i]? = some x := ⟨_, List.getElem?_eq_getElem (by have := HN.out; omega)⟩
          have HX := hidK hx
          obtain ⟨bA, oA, pA, eA, d0, d1, d2, d3, d4, d5, d6, d7⟩ := (HVA.out.on hb).rw hx
          injection eA with eA eAb eAc
          subst eA
          have lA := World.block_lt_of_cell? _ _ d0
          have lB := World.block_lt_of_cell? _ _ f0
          have hv0 := fun n os => cell_grown (w := wr) lA d0 n os
          have hv1 := fun n os => cell_grown (w := wr) (a := ⟨bA, oA + i * 8 + 1, none⟩) lA d1 n os
          have hv2 := fun n os => cell_grown (w := wr) (a := ⟨bA, oA + i * 8 + 2, none⟩) lA d2 n os
          have hv3 := fun n os => cell_grown (w := wr) (a := ⟨bA, oA + i * 8 + 3, none⟩) lA d3 n os
          have hv4 := fun n os => cell_grown (w := wr) (a := ⟨bA, oA + i * 8 + 4, none⟩) lA d4 n os
          have hv5 := fun n os => cell_grown (w := wr) (a := ⟨bA, oA + i * 8 + 5, none⟩) lA d5 n os
          have hv6 := fun n os => cell_grown (w := wr) (a := ⟨bA, oA + i * 8 + 6, none⟩) lA d6 n os
          have hv7 := fun n os => cell_grown (w := wr) (a := ⟨bA, oA + i * 8 + 7, none⟩) lA d7 n os
          have hu0 := fun n os => cell_grown (w := wr) lB f0 n os
          have hu1 := fun n os => cell_grown (w := wr) (a := ⟨bB, oB + j * 8 + 1, none⟩) lB f1 n os
          have hu2 := fun n os => cell_grown (w := wr) (a := ⟨bB, oB + j * 8 + 2, none⟩) lB f2 n os
          have hu3 := fun n os => cell_grown (w := wr) (a := ⟨bB, oB + j * 8 + 3, none⟩) lB f3 n os
          have hu4 := fun n os => cell_grown (w := wr) (a := ⟨bB, oB + j * 8 + 4, none⟩) lB f4 n os
          have hu5 := fun n os => cell_grown (w := wr) (a := ⟨bB, oB + j * 8 + 5, none⟩) lB f5 n os
          have hu6 := fun n os => cell_grown (w := wr) (a := ⟨bB, oB + j * 8 + 6, none⟩) lB f6 n os
          have hu7 := fun n os => cell_grown (w := wr) (a := ⟨bB, oB + j * 8 + 7, none⟩) lB f7 n os
          have HD : Hid (∀ W, Below wr.heap.size wr W → W.cell? ⟨bA, oA + i * 8, none⟩ = some (.string x.nm) ∧ W.cell? ⟨bA, oA + i * 8 + 1, none⟩ = some (.int .i64 x.bd) ∧ W.cell? ⟨bA, oA + i * 8 + 2, none⟩ = some (.int .i64 x.ty) ∧ W.cell? ⟨bA, oA + i * 8 + 3, none⟩ = some (.int .i64 x.ot) ∧ W.cell? ⟨bA, oA + i * 8 + 4, none⟩ = some (.int .i64 x.sc) ∧ W.cell? ⟨bA, oA + i * 8 + 5, none⟩ = some (.int .u64 x.va) ∧ W.cell? ⟨bA, oA + i * 8 + 6, none⟩ = some (.int .u64 x.sz) ∧ W.cell? ⟨bA, oA + i * 8 + 7, none⟩ = some (.int .u8 x.lt)) := fun W h => ⟨cell_onG d0 h, cell_onG d1 h, cell_onG d2 h, cell_onG d3 h, cell_onG d4 h, cell_onG d5 h, cell_onG d6 h, cell_onG d7 h⟩
          have hc := fun (n : Nat) (os : Array Obj) => HAH.out y x (grow (wr.drewN n) os)
          clear hx eAb eAc ho hb d0 d1 d2 d3 d4 d5 d6 d7 f0 f1 f2 f3 f4 f5 f6 f7 lA lB
          have hB0 := HB1.out
          cases hl : ltR num y x with
          | true =>
            rw [hl] at hc
            have HL := hidK hl
            clear hl hB0
            go_upto_region 6 with fail
            go_quiet_grown (first | (go_at_call 28; refine Calls.grown_of (hc _ _)))
            have HGR : Hid (Below wr.heap.size wr (grow (wr.drewN nq) osq)) := (show Gr wr (grow (wr.drewN nq) osq) from ⟨nq, osq, rfl⟩).below
            generalize grow (wr.drewN nq) osq = w2 at HGR ⊢
            have HO2 := hidK (HO.out.on HGR.out)
            have HB2 := hidK (HB1.out.trans (HGR.out.mono HB1.out.size))
            have HLN : Hid (O.length ≤ 2097152) := by show _ ≤ _; have h1 := HMG.out.len; have := HN.out; have := HM.out; omega
            clear hv0 hv1 hv2 hv3 hv4 hv5 hv6 hv7 hu0 hu1 hu2 hu3 hu4 hu5 hu6 hu7 hc
            obtain ⟨f0, f1, f2, f3, f4, f5, f6, f7⟩ := HF.out _ HGR.out
            go_wp2_with (refine wpG_one (F := fun b => w.heap.size ≤ b) elR rfl (.tmp 42) (.tmp 47) rfl (.slice ai li ci) O y #[.string y.nm, .int .i64 y.bd, .int .i64 y.ty, .int .i64 y.ot, .int .i64 y.sc, .int .u64 y.va, .int .u64 y.sz, .int .u8 y.lt] rfl rfl rfl HO2.out (rwL_one _) (by have := HLN.out; omega) (fun b hb => Nat.le_trans HB2.out.size hb) ?_; intro v4 w4 o4 k4 l4; have HO4 := hidK o4; have HK4 := hidK k4; obtain ⟨a4, p4, e4, _⟩ := o4.form; obtain ⟨m4, hm4⟩ : ∃ m, m = (O ++ [y]).length := ⟨_, rfl⟩; rw [← hm4] at e4; clear hm4 o4 k4 l4; subst e4)
            go_roundw
            case rel => exact ⟨i, j + 1, _, _, _, _, rfl, by go_num, by omega, by omega, rfl, HO4.out, HMG.out.pushB HY.out (.inr ⟨x, HX.out, HL.out⟩), HB2.out.trans (HK4.out.below (fun b hb => HO2.out.2 b hb) HB2.out.size)⟩
            case measure => simp [intOf]; omega
          | false =>
            rw [hl] at hc
            have HL := hidK hl
            clear hl hB0
            go_upto_region 6 with fail
            go_quiet_grown (first | (go_at_call 28; refine Calls.grown_of (hc _ _)))
            have HGR : Hid (Below wr.heap.size wr (grow (wr.drewN nq) osq)) := (show Gr wr (grow (wr.drewN nq) osq) from ⟨nq, osq, rfl⟩).below
            generalize grow (wr.drewN nq) osq = w2 at HGR ⊢
            have HO2 := hidK (HO.out.on HGR.out)
            have HB2 := hidK (HB1.out.trans (HGR.out.mono HB1.out.size))
            have HLN : Hid (O.length ≤ 2097152) := by show _ ≤ _; have h1 := HMG.out.len; have := HN.out; have := HM.out; omega
            clear hv0 hv1 hv2 hv3 hv4 hv5 hv6 hv7 hu0 hu1 hu2 hu3 hu4 hu5 hu6 hu7 hc
            obtain ⟨f0, f1, f2, f3, f4, f5, f6, f7⟩ := HD.out _ HGR.out
            go_wp2_with (refine wpG_one (F := fun b => w.heap.size ≤ b) elR rfl (.tmp 33) (.tmp 38) rfl (.slice ai li ci) O x #[.string x.nm, .int .i64 x.bd, .int .i64 x.ty, .int .i64 x.ot, .int .i64 x.sc, .int .u64 x.va, .int .u64 x.sz, .int .u8 x.lt] rfl rfl rfl HO2.out (rwL_one _) (by have := HLN.out; omega) (fun b hb => Nat.le_trans HB2.out.size hb) ?_; intro v4 w4 o4 k4 l4; have HO4 := hidK o4; have HK4 := hidK k4; obtain ⟨a4, p4, e4, _⟩ := o4.form; obtain ⟨m4, hm4⟩ : ∃ m, m = (O ++ [x]).length := ⟨_, rfl⟩; rw [← hm4] at e4; clear hm4 o4 k4 l4; subst e4)
            go_roundw
            case rel => exact ⟨i + 1, _, _, _, _, by go_num, by omega, rfl, HO4.out, HMG.out.pushA HX.out HY.out HL.out, HB2.out.trans (HK4.out.below (fun b hb => HO2.out.2 b hb) HB2.out.size)⟩
            case measure => simp [intOf]; omega
        · obtain rfl : i = n := by omega
          clear ho hb f0 f1 f2 f3 f4 f5 f6 f7
          go_upto_region 6 with fail
          go_quiet (fail)
          have HGR : Hid (Below wr.heap.size wr (wr.drewN nq)) := (show Gr wr (wr.drewN nq) from ⟨nq, #[], by rw [grow_empty]⟩).below
          generalize wr.drewN nq = w2 at HGR ⊢
          have HO2 := hidK (HO.out.on HGR.out)
          have HB2 := hidK (HB1.out.trans (HGR.out.mono HB1.out.size))
          have HLN : Hid (O.length ≤ 2097152) := by show _ ≤ _; have h1 := HMG.out.len; have := HN.out; have := HM.out; omega
          obtain ⟨f0, f1, f2, f3, f4, f5, f6, f7⟩ := HF.out _ HGR.out
          go_wp2_with (refine wpG_one (F := fun b => w.heap.size ≤ b) elR rfl (.tmp 42) (.tmp 47) rfl (.slice ai li ci) O y #[.string y.nm, .int .i64 y.bd, .int .i64 y.ty, .int .i64 y.ot, .int .i64 y.sc, .int .u64 y.va, .int .u64 y.sz, .int .u8 y.lt] rfl rfl rfl HO2.out (rwL_one _) (by have := HLN.out; omega) (fun b hb => Nat.le_trans HB2.out.size hb) ?_; intro v4 w4 o4 k4 l4; have HO4 := hidK o4; have HK4 := hidK k4; obtain ⟨a4, p4, e4, _⟩ := o4.form; obtain ⟨m4, hm4⟩ : ∃ m, m = (O ++ [y]).length := ⟨_, rfl⟩; rw [← hm4] at e4; clear hm4 o4 k4 l4; subst e4)
          go_roundw
          case rel => exact ⟨i, j + 1, _, _, _, _, rfl, by go_num, by omega, by omega, rfl, HO4.out, HMG.out.pushB HY.out (.inl (by rw [HN.out]; exact Nat.le_refl _)), HB2.out.trans (HK4.out.below (fun b hb => HO2.out.2 b hb) HB2.out.size)⟩
          case measure => simp [intOf]; omega
    · obtain rfl : j = m := by omega
      go_wp2
      go_loopw [7, 8] (fun o vi wx => ∃ (i : Nat) (a : Option Addr) (l c : Nat) (O : List Rw), vi = .int .i64 i ∧ i ≤ n ∧ o = .slice a l c ∧ OwR (fun b => w.heap.size ≤ b) wx (.slice a l c) O ∧ Hid (MgI num A B O i j) ∧ Below w.heap.size w wx) (fun _ vi _ => n - (intOf vi).toNat)
      case atStart => exact ⟨i, ao, lo, co, O, rfl, hin, rfl, HO.out, HMG, HB0.out⟩
      case round =>
        obtain ⟨i, ai, li, ci, O, rfl, hin, rfl, ho, HMG, hb⟩ := hrel
        have HO2 := hidK ho
        have HB2 := hidK hb
        by_cases hi : i < n
        · have iI : (i : Int) < (n : Int) := by omega
          have i0 : (0 : Int) ≤ (i : Int) := by omega
          have iw : IntKind.i64.wrap ((i : Int) + 1) = (i : Int) + 1 := by rw [IntKind.wrap_i64]; omega
          obtain ⟨x, hx⟩ : ∃ x, A[i]? = some x := ⟨_, List.getElem?_eq_getElem (by have := HN.out; omega)⟩
          have HX := hidK hx
          obtain ⟨bA, oA, pA, eA, d0, d1, d2, d3, d4, d5, d6, d7⟩ := (HVA.out.on hb).rw hx
          injection eA with eA eAb eAc
          subst eA
          have HLN : Hid (O.length ≤ 2097152) := by show _ ≤ _; have h1 := HMG.out.len; have := HN.out; have := HM.out; omega
          clear hx eAb eAc ho hb
          go_wp2_with (refine wpG_one (F := fun b => w.heap.size ≤ b) elR rfl (.tmp 53) (.tmp 58) rfl (.slice ai li ci) O x #[.string x.nm, .int .i64 x.bd, .int .i64 x.ty, .int .i64 x.ot, .int .i64 x.sc, .int .u64 x.va, .int .u64 x.sz, .int .u8 x.lt] rfl rfl rfl HO2.out (rwL_one _) (by have := HLN.out; omega) (fun b hb => Nat.le_trans HB2.out.size hb) ?_; intro v4 w4 o4 k4 l4; have HO4 := hidK o4; have HK4 := hidK k4; obtain ⟨a4, p4, e4, _⟩ := o4.form; obtain ⟨m4, hm4⟩ : ∃ m, m = (O ++ [x]).length := ⟨_, rfl⟩; rw [← hm4] at e4; clear hm4 o4 k4 l4; subst e4)
          go_roundw
          case rel => exact ⟨i + 1, _, _, _, _, by go_num, by omega, rfl, HO4.out, HMG.out.rest (by rw [← HM.out]; exact Nat.le_refl _) HX.out, HB2.out.trans (HK4.out.below (fun b hb => HO2.out.2 b hb) HB2.out.size)⟩
          case measure => simp [intOf]; omega
        · obtain rfl : i = n := by omega
          have HE := hidK (HMG.out.done (by rw [← HM.out]; exact Nat.le_refl _) (by rw [← HN.out]; exact Nat.le_refl _))
          clear ho hb
          go_wp2
          go_ret
          exact ⟨_, _, _, rfl, by rw [← HE.out]; exact HO2.out, HB2.out⟩
end Go.Proofs.Ytbmdclgndlddbaa
