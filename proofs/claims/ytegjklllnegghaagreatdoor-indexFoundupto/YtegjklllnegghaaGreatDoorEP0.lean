
-- index.Encode where it is not refused: contracts.
import Derived.Test.YtegjklllnegghaaGreatDoorWN
import Derived.Test.YtegjklllnegghaaGreatDoorShelfB
namespace Go.Proofs.YtegjklllnegghaaGreatDoor
open Go.ChangeShapes Go.WideShapes Go.ChangeAt Go.RowKit
set_option linter.unusedVariables false
set_option maxRecDepth 100000
theorem NmRow.rowS {L : List En} {g : Nat} {w : World} (h : NmRow L g w) (c : Nat) : RowS w (.slice (some ⟨g, 0, none⟩) L.length c) (L.map En.name) := by
  obtain ⟨row, r1, r2⟩ := h
  refine .inr ⟨g, 0, c, by rw [List.length_map], fun j hj => ?_⟩
  rw [List.length_map] at hj
  rw [Nat.zero_add]
  have hx := List.getElem?_eq_getElem hj
  refine cell_rowK r1 j _ ((r2 j _ hx).trans ?_)
  simp [List.getD, hj]
set_option maxHeartbeats 4000000 in
theorem namesOfR_c (v : Value) (L : List En) (w : World) (hv : RowE w v L) (hn : L.length ≤ 1073741824) :
    Calls Tryz.prog 20 #[v] w fun e w' => e = .returned (.slice (some ⟨w.heap.size, 0, none⟩) L.length L.length) ∧ NmRow L w.heap.size w' ∧ Below w.heap.size w w' := by
  obtain ⟨a1, c1, q1⟩ := hv.form
  obtain ⟨n, hnn⟩ : ∃ n, n = L.length := ⟨_, rfl⟩
  have HN := hidK hnn
  have HV := hidK hv
  subst q1
  rw [← hnn] at hn ⊢ HV
  have hmk := mk_strsK n (by omega)
  clear hv hnn
  go_enter Tryz.func20, Tryz.ntmps20
  go_wp2
  clear hmk
  go_loopw [11] (fun i wx => ∃ k : Nat, i = .int .i64 k ∧ k ≤ n ∧ NmUp L w.heap.size n k wx ∧ Below w.heap.size w wx) (fun i _ => n - (intOf i).toNat)
  case atStart => exact ⟨0, rfl, Nat.zero_le _, ⟨_, heap_alloc_new w _, by rw [size_madeCells], fun j x hj => absurd hj (Nat.not_lt_zero _)⟩, bupK (Below.refl _ _) _⟩
  case round =>
    obtain ⟨k, rfl, hkn, hU, hB⟩ := hrel
    by_cases hk : k < n
    · have kI : (k : Int) < (n : Int) := by omega
      have k0 : (0 : Int) ≤ (k : Int) := by omega
      have hkl : k < L.length := by have := HN.out; omega
      obtain ⟨⟨nm, pl⟩, hx⟩ : ∃ x, L[k]? = some x := ⟨_, List.getElem?_eq_getElem hkl⟩
      obtain ⟨b, off, cap, e1, d1, d2⟩ := (HV.out.on hB).atK hx
      have HX := hidK hx
      injection e1 with e1 e2 e3
      subst e1
      simp only [] at d1 d2
      obtain ⟨row, r1, r2, r3⟩ := hU
      have HR3 := hidK r3
      have HB := hidK hB
      have hUl : w.heap.size < wr.heap.size := (Array.getElem?_eq_some_iff.1 r1).1
      have hf := hidK (Nat.ble_eq_true_of_le (show k + 1 ≤ row.size by omega))
      clear hx hkl e2 e3 HV r3 hB
      go_wp2_with (first
        | (refine wpList_store_kz rfl rfl _ _ _ rfl wr.heap.size 0 (.agg #[.string nm, .int .i64 pl]) rfl rfl _ _ #[.string nm, .int .i64 pl] (heap_alloc_new _ _) (by kernel_rfl) rfl rfl rfl ?_; intro W2 R2 q2; have B2 := q2.belowN (bupK (Below.refl wr.heap.size wr) _) (Nat.le_refl _) (Nat.le_refl _); have cc := cell_rowK R2 0 (.string nm) rfl; have r1' := hkeepK B2 r1)
        | (refine wpList_store_kz rfl rfl _ _ _ rfl w.heap.size k (.string nm) (by first | rfl | (simp [Act.eval]; done)) rfl _ _ (putAt row k #[.string nm]) r1' (by kernel_rfl) hf.out rfl rfl ?_; intro W3 R3 q3))
      go_roundw
      case rel =>
        refine ⟨k + 1, by go_num, by omega, ⟨_, R3, by rw [putAt_oneK_size _ _ _ (by omega)]; exact r2, fun j x hj hx => ?_⟩, q3.belowN (bel3K HB.out B2) (Nat.le_refl _) (Nat.le_refl _)⟩
        rw [putAt_oneK _ _ _ (by omega)]
        by_cases e : j = k
        · subst e
          rw [HX.out] at hx; injection hx with hx; rw [← hx, if_pos rfl]
        · rw [if_neg e]; exact HR3.out j x (by omega) hx
      case measure => simp [intOf]; omega
    · obtain rfl : k = n := by omega
      have HU := hidK hU
      clear HV hU
      go_wp2
      go_ret
      obtain ⟨row, r1, r2, r3⟩ := HU.out
      exact ⟨rfl, ⟨row, r1, fun j x hx => r3 j x (by have := (List.getElem?_eq_some_iff.1 hx).1; have := HN.out; omega) hx⟩, hB⟩
theorem rowFits_ca1 (n t : Nat) (w : World) (h : holdB false (n : Int) = true) : Calls Tryz.prog 43 #[.agg ca1, .agg #[.int .i64 n, .int .i64 t]] w fun e w' => e = .returned (.bool true) ∧ Below w.heap.size w w' := by
  have HH : Hid (∀ w, Calls Tryz.prog 34 #[.agg ca1, .int .i64 n] w fun e w' => e = .returned (.bool true) ∧ Below w.heap.size w w') := fun w => by have := holds_ca1 n w; rw [h] at this; exact this
  obtain ⟨W1, hW1⟩ : ∃ W1, W1 = (w.alloc (.cells ca1 52)).alloc (.cells #[.int .i64 n, .int .i64 t] 58) := ⟨_, rfl⟩
  have R1 : W1.heap[w.heap.size]? = some (.cells ca1 52 (0, 0)) := (by rw [hW1]; exact hupK (heap_alloc_new w _) _)
  have S1 : W1.heap[w.heap.size + 1]? = some (.cells #[.int .i64 n, .int .i64 t] 58 (0, 0)) := (by rw [hW1]; exact heap_new2K w _ _)
  have B1 : Below w.heap.size w W1 := (by rw [hW1]; exact bupK (bupK (Below.refl _ _) _) _)
  clear h
  go_enter Tryz.func43, Tryz.ntmps43
  go_upto_region 1 with fail
  have cn := cell_rowK S1 0 (.int .i64 n) rfl
  rw [← hW1]
  clear hW1
  go_wp2_with (first
    | (refine wpList_load_row rfl _ _ rfl w.heap.size rfl _ _ _ _ R1 Tryz.underlying52 rfl (by kernel_rfl) ?_)
    | (go_at_call 34; refine (HH.out _).mono ?_; rintro e w2 ⟨rfl, b2⟩))
  go_ret
  exact ⟨rfl, bel3K B1 b2⟩
theorem rowFits_ca2 (n t : Nat) (w : World) (h : holdB true (n : Int) = true) : Calls Tryz.prog 43 #[.agg ca2, .agg #[.int .i64 n, .int .i64 t]] w fun e w' => e = .returned (.bool true) ∧ Below w.heap.size w w' := by
  have HH : Hid (∀ w, Calls Tryz.prog 34 #[.agg ca2, .int .i64 n] w fun e w' => e = .returned (.bool true) ∧ Below w.heap.size w w') := fun w => by have := holds_ca2 n w; rw [h] at this; exact this
  obtain ⟨W1, hW1⟩ : ∃ W1, W1 = (w.alloc (.cells ca2 52)).alloc (.cells #[.int .i64 n, .int .i64 t] 58) := ⟨_, rfl⟩
  have R1 : W1.heap[w.heap.size]? = some (.cells ca2 52 (0, 0)) := (by rw [hW1]; exact hupK (heap_alloc_new w _) _)
  have S1 : W1.heap[w.heap.size + 1]? = some (.cells #[.int .i64 n, .int .i64 t] 58 (0, 0)) := (by rw [hW1]; exact heap_new2K w _ _)
  have B1 : Below w.heap.size w W1 := (by rw [hW1]; exact bupK (bupK (Below.refl _ _) _) _)
  clear h
  go_enter Tryz.func43, Tryz.ntmps43
  go_upto_region 1 with fail
  have cn := cell_rowK S1 0 (.int .i64 n) rfl
  rw [← hW1]
  clear hW1
  go_wp2_with (first
    | (refine wpList_load_row rfl _ _ rfl w.heap.size rfl _ _ _ _ R1 Tryz.underlying52 rfl (by kernel_rfl) ?_)
    | (go_at_call 34; refine (HH.out _).mono ?_; rintro e w2 ⟨rfl, b2⟩))
  go_ret
  exact ⟨rfl, bel3K B1 b2⟩
theorem keepN {n k : Nat} {a b : World} {o : Obj} (hb : Below n a b) (hk : k < n) (h : a.heap[k]? = some o) : b.heap[k]? = some o := (hb.block k hk).trans h
theorem NmRow.low {L : List En} {g n : Nat} {a b : World} (h : NmRow L g a) (hg : g < n) (hb : Below n a b) : NmRow L g b := by
  obtain ⟨row, h1, h2⟩ := h
  exact ⟨row, keepN hb hg h1, h2⟩
end Go.Proofs.YtegjklllnegghaaGreatDoor
