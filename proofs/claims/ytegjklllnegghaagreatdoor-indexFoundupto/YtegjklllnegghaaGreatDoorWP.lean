
-- (index.codec).writePairs, writeNames: contracts.
import Derived.Test.YtegjklllnegghaaGreatDoorWR
import Derived.Deep.CutRange
namespace Go.Proofs.YtegjklllnegghaaGreatDoor
open Go.ChangeShapes Go.WideShapes Go.ChangeAt Go.RowKit
set_option linter.unusedVariables false
set_option maxRecDepth 100000
/-- where the name of the next entry begins -/
def begN (L : List En) : Nat := totN (L.map En.name)
/-- the pairs of the first k entries -/
def prB (L : List En) : Nat → List UInt8
  | 0 => []
  | k + 1 => prB L k ++ (nb3 (begN (L.take k)) ++ nb3 ((L[k]?.map En.pl).getD 0).toNat)
theorem prB_len (L : List En) : ∀ k, (prB L k).length = k * 8
  | 0 => rfl
  | k + 1 => by unfold prB; rw [List.length_append, List.length_append, nb3_len, nb3_len, prB_len L k]; omega
theorem totN_snoc (l : List ByteArray) (x : ByteArray) : totN (l ++ [x]) = totN l + (x.size + 1) := by
  induction l with
  | nil => simp [totN]
  | cons y r ih => simp only [List.cons_append, totN]; omega
theorem totN_takeK (l : List ByteArray) (k : Nat) : totN (l.take k) ≤ totN l := by
  induction l generalizing k with
  | nil => simp
  | cons y r ih =>
    cases k with
    | zero => simp [totN]
    | succ k => simp only [List.take_succ_cons, totN]; have := ih k; omega
set_option maxHeartbeats 8000000 in
theorem writePairs_c (W0 : World) (b n t : Nat) (bs : List UInt8) (v : Value) (L : List En) (w : World) (hv : RowE W0 v L) (h : IsB W0.heap.size b bs w) (hb : Below W0.heap.size W0 w) (hn : n < 536870912) (ht : t < 4294967296) (hL : L.length ≤ 536870912) (hlen : bs.length ≤ 1073741824) (hp : ∀ x ∈ L, 0 ≤ x.pl ∧ x.pl < 4294967296) (hT : totN (L.map En.name) < 4294967296) :
    Calls Tryz.prog 48 #[.agg ca3, .pointer (some ⟨b, 0, none⟩), v, .agg #[.int .i64 n, .int .i64 t]] w fun e w' => e = .returned (.tuple #[]) ∧ IsB W0.heap.size b (bs ++ nb3 (8 * n) ++ prB L L.length ++ nb3 t) w' ∧ Below W0.heap.size w w' := by
  have hbl : b < w.heap.size := by rcases h with h | h <;> exact h.lt
  have hs0 := hb.size
  have HV := hidK hv
  have HP := hidK hp
  have HI := hidK h
  have HB := hidK hb
  have HT := hidK hT
  obtain ⟨a1, c1, q1⟩ := hv.form
  obtain ⟨m, hmm⟩ : ∃ m, m = L.length := ⟨_, rfl⟩
  have HN := hidK hmm
  subst q1
  rw [← hmm] at hL ⊢ HV
  have HC : Hid (∀ (bs : List UInt8) (z : Nat) (wx : World), IsB W0.heap.size b bs wx → bs.length + 4 ≤ 140737488355328 → W0.heap.size ≤ wx.heap.size → z < 4294967296 → Calls Tryz.prog 53 #[.agg ca3, .pointer (some ⟨b, 0, none⟩), .int .i64 z] wx fun e w' => e = .returned (.tuple #[]) ∧ IsB W0.heap.size b (bs ++ nb3 z) w' ∧ Below W0.heap.size wx w' ∧ Kept b wx w') := fun bs z wx h1 h2 h3 h4 => cstore3_c W0.heap.size b bs z wx h1 h2 h3 h4
  obtain ⟨W1, hW1⟩ : ∃ W1, W1 = (w.alloc (.cells ca3 52)).alloc (.cells #[.int .i64 n, .int .i64 t] 58) := ⟨_, rfl⟩
  have R1 : W1.heap[w.heap.size]? = some (.cells ca3 52 (0, 0)) := (by rw [hW1]; exact hupK (heap_alloc_new w _) _)
  have S1 : W1.heap[w.heap.size + 1]? = some (.cells #[.int .i64 n, .int .i64 t] 58 (0, 0)) := (by rw [hW1]; exact heap_new2K w _ _)
  have B1 : Below w.heap.size w W1 := (by rw [hW1]; exact bupK (bupK (Below.refl _ _) _) _)
  have HI1 := hidK (isB_below HI.out B1)
  have HB1 := hidK B1
  have HC1 := hidK (fun wx => HC.out bs (8 * n) wx)
  rw [show (((8 * n : Nat)) : Int) = 8 * (n : Int) by omega] at HC1
  clear hv hmm h hb hp HI hT
  go_enter Tryz.func48, Tryz.ntmps48
  go_upto_region 1 with fail
  have cn := cell_rowK S1 0 (.int .i64 n) rfl
  have cw := cell_rowK R1 1 (.int .i64 4) rfl
  rw [← hW1]
  clear hW1
  go_upto_region 2 with (first
    | (refine wpList_load_row rfl _ _ rfl w.heap.size rfl _ _ _ _ R1 Tryz.underlying52 rfl (by kernel_rfl) ?_)
    | (go_at_call 53; refine (HC1.out _ HI1.out (by omega) (Nat.le_trans hs0 HB1.out.size) (by omega)).mono ?_; rintro e w2 ⟨rfl, i2, b2, k2⟩))
  have R2 := kept_row k2 R1 (by decide) (by omega)
  have S2 := kept_row k2 S1 (by decide) (by omega)
  have HI2 := hidK i2
  have HB2 := hidK (((HB1.out).mono hs0).trans b2)
  clear R1 S1 cn cw i2 b2 k2 HI1 HB1 HC1
  go_wp2
  go_loopw [8, 22] (fun u i wx => ∃ k : Nat, u = .int .i64 (begN (L.take k) : Nat) ∧ i = .int .i64 k ∧ k ≤ m ∧ wx.heap[w.heap.size]? = some (.cells ca3 52 (0, 0)) ∧ wx.heap[w.heap.size + 1]? = some (.cells #[.int .i64 n, .int .i64 t] 58 (0, 0)) ∧ IsB W0.heap.size b (bs ++ nb3 (8 * n) ++ prB L k) wx ∧ Below W0.heap.size w wx) (fun _ i _ => m - (intOf i).toNat)
  case atStart => exact ⟨0, rfl, rfl, Nat.zero_le _, R2, S2, by simpa [prB] using HI2.out, HB2.out⟩
  case round =>
    obtain ⟨k, rfl, rfl, hkn, hR, hS, hI, hB⟩ := hrel
    have HBx := hidK hB
    have HIx := hidK hI
    have hws := hB.size
    clear R2 S2 hI hB HI2 HB2
    have hlen2 : (bs ++ nb3 (8 * n) ++ prB L k).length + 8 ≤ 140737488355328 := by
      rw [List.length_append, List.length_append, nb3_len, prB_len]
      omega
    have HL2 := hidK hlen2
    clear hlen2
    by_cases hk : k < m
    · have kI : (k : Int) < (m : Int) := by omega
      have k0 : (0 : Int) ≤ (k : Int) := by omega
      have hkl : k < L.length := by have := HN.out; omega
      obtain ⟨⟨nm, pl⟩, hx⟩ : ∃ x, L[k]? = some x := ⟨_, List.getElem?_eq_getElem hkl⟩
      obtain ⟨g, off, cap, e1, d1, d2⟩ := (HV.out.on (HB.out.trans HBx.out)).atK hx
      have hpl := HP.out _ (List.mem_of_getElem? hx)
      simp only [] at hpl d1 d2
      obtain ⟨z, hz⟩ : ∃ z : Nat, pl = (z : Int) := ⟨pl.toNat, by omega⟩
      subst hz
      have hzz : z < 4294967296 := by omega
      have HX := hidK hx
      have hbg : begN (L.take (k + 1)) = begN (L.take k) + (nm.size + 1) := by
        unfold begN; rw [take_snoc hx, List.map_append]; exact totN_snoc _ nm
      have hbl2 : begN (L.take (k + 1)) < 4294967296 := by
        have := totN_takeK (L.map En.name) (k + 1)
        rw [← List.map_take] at this
        have := HT.out
        unfold begN; omega
      have HE : Hid (prB L (k + 1) = prB L k ++ (nb3 (begN (L.take k)) ++ nb3 z)) := (by show _ = _; rw [prB, hx]; rfl)
      have HBG := hidK hbg
      rw [hbg] at hbl2
      generalize begN (L.take k) = q at *
      injection e1 with e1 e2 e3
      subst e1
      clear hx hkl e2 e3 HV hpl hbg
      go_upto_region 6 with (refine wpList_store_kz rfl rfl _ _ _ rfl wr.heap.size 0 (.agg #[.string nm, .int .i64 z]) rfl rfl _ _ #[.string nm, .int .i64 z] (heap_alloc_new _ _) (by kernel_rfl) rfl rfl rfl ?_; intro W2 R2 q2)
      have B2 := q2.belowN (bupK (Below.refl wr.heap.size wr) _) (Nat.le_refl _) (Nat.le_refl _)
      have hR' := hkeepK B2 hR
      have hS' := hkeepK B2 hS
      have hX' : wr.heap.size < W2.heap.size := (Array.getElem?_eq_some_iff.1 R2).1
      clear q2 d1 d2 hR hS
      go_upto_region 7 with (first
        | (refine wpList_load_row rfl _ _ rfl w.heap.size rfl _ _ _ _ hR' Tryz.underlying52 rfl (by kernel_rfl) ?_)
        | (go_at_call 53; refine (HC.out _ q _ (isB_below HIx.out B2) (by have := HL2.out; omega) (by omega) (by omega)).mono ?_; rintro e w3 ⟨rfl, i3, b3, k3⟩))
      have hR3 := kept_row k3 hR' (by decide) (by omega)
      have hS3 := kept_row k3 hS' (by decide) (by omega)
      have hX3 := kept_row k3 R2 (by decide) (by omega)
      have cc := cell_rowK hX3 1 (.int .i64 z) rfl
      have hw3 := b3.size
      have HI3 := hidK i3
      have HB3 := hidK b3
      clear hR' hS' R2 k3 i3 b3
      go_upto_region 8 with (first
        | (refine wpList_load_row rfl _ _ rfl w.heap.size rfl _ _ _ _ hR3 Tryz.underlying52 rfl (by kernel_rfl) ?_)
        | (go_at_call 53; refine (HC.out _ z _ HI3.out (by have := HL2.out; rw [List.length_append, nb3_len]; omega) (by omega) hzz).mono ?_; rintro e w4 ⟨rfl, i4, b4, k4⟩))
      have hR4 := kept_row k4 hR3 (by decide) (by omega)
      have hS4 := kept_row k4 hS3 (by decide) (by omega)
      have c0 := cell_rowK (kept_row k4 hX3 (by decide) (by omega)) 0 (.string nm) rfl
      have HI4 := hidK i4
      have HB4 := hidK b4
      clear hR3 hS3 hX3 cc k4 i4 b4
      go_wp2
      go_roundw
      case rel =>
        refine ⟨k + 1, by rw [HBG.out]; go_num, by go_num, by omega, hR4, hS4, ?_, ((HBx.out.trans (B2.mono (by omega))).trans HB3.out).trans HB4.out⟩
        rw [HE.out]
        simpa using HI4.out
      case measure => simp [intOf]; omega
    · obtain rfl : k = m := by omega
      have ct := cell_rowK hS 1 (.int .i64 t) rfl
      clear HV
      go_wp2_with (first
        | (refine wpList_load_row rfl _ _ rfl w.heap.size rfl _ _ _ _ hR Tryz.underlying52 rfl (by kernel_rfl) ?_)
        | (go_at_call 53; refine (HC.out _ t _ HIx.out (by have := HL2.out; omega) (by omega) ht).mono ?_; rintro e w4 ⟨rfl, i4, b4, k4⟩))
      go_end0
      exact ⟨rfl, i4, HBx.out.trans b4⟩
end Go.Proofs.YtegjklllnegghaaGreatDoor
