
-- (index.codec).writeRow, writePairs: contracts.
import Derived.Test.YtegjklllnegghaaGreatDoorBY
import Derived.Deep.CutRange
namespace Go.Proofs.YtegjklllnegghaaGreatDoor
open Go.ChangeShapes Go.WideShapes Go.ChangeAt Go.RowKit
set_option linter.unusedVariables false
set_option maxRecDepth 100000
theorem kept_row {b k : Nat} {w w' : World} {c : Array Value} {t : TypeId} (h : Kept b w w') (hk : w.heap[k]? = some (.cells c t (0, 0))) (ht : t ≠ 5) (hb : k ≠ b) : w'.heap[k]? = some (.cells c t (0, 0)) :=
  h k _ hk (fun e => hb (Option.some.inj e)) (fun c' fz e => ht (by injection e))
theorem RowE.low {W0 w : World} {v : Value} {L : List En} (h : RowE W0 v L) (hb : Below W0.heap.size W0 w) : RowE w v L := h.on hb
theorem flat_nb {K : Nat} (f : En → List UInt8) (hf : ∀ x, (f x).length = K) (l : List En) : (l.flatMap f).length = l.length * K := by
  induction l with
  | nil => simp
  | cons x r ih => rw [List.flatMap_cons, List.length_append, ih, hf, List.length_cons, Nat.add_mul, Nat.one_mul, Nat.add_comm]
theorem take_snoc {l : List En} {k : Nat} {x : En} (h : l[k]? = some x) : l.take (k + 1) = l.take k ++ [x] := by
  rw [List.take_add_one, h]; rfl
set_option maxHeartbeats 4000000 in
theorem writeRow1_c (W0 : World) (b n t : Nat) (bs : List UInt8) (v : Value) (L : List En) (w : World) (hv : RowE W0 v L) (h : IsB W0.heap.size b bs w) (hb : Below W0.heap.size W0 w) (hn : n < 4294967296) (hL : L.length ≤ 1073741824) (hlen : bs.length ≤ 1073741824) (hp : ∀ x ∈ L, 0 ≤ x.pl ∧ x.pl < 4294967296) :
    Calls Tryz.prog 44 #[.agg ca1, .pointer (some ⟨b, 0, none⟩), v, .agg #[.int .i64 n, .int .i64 t]] w fun e w' => e = .returned (.tuple #[]) ∧ IsB W0.heap.size b (bs ++ nb1 n ++ L.flatMap (fun x => nb1 x.pl.toNat)) w' ∧ Below W0.heap.size w w' := by
  have hbl : b < w.heap.size := by rcases h with h | h <;> exact h.lt
  have hs0 := hb.size
  have HV := hidK hv
  have HP := hidK hp
  have HI := hidK h
  have HB := hidK hb
  obtain ⟨a1, c1, q1⟩ := hv.form
  obtain ⟨m, hmm⟩ : ∃ m, m = L.length := ⟨_, rfl⟩
  have HN := hidK hmm
  subst q1
  rw [← hmm] at hL ⊢ HV
  have HC : Hid (∀ (bs : List UInt8) (z : Nat) (wx : World), IsB W0.heap.size b bs wx → bs.length + 4 ≤ 140737488355328 → W0.heap.size ≤ wx.heap.size → z < 4294967296 → Calls Tryz.prog 53 #[.agg ca1, .pointer (some ⟨b, 0, none⟩), .int .i64 z] wx fun e w' => e = .returned (.tuple #[]) ∧ IsB W0.heap.size b (bs ++ nb1 z) w' ∧ Below W0.heap.size wx w' ∧ Kept b wx w') := fun bs z wx h1 h2 h3 h4 => cstore1_c W0.heap.size b bs z wx h1 h2 h3 h4
  obtain ⟨W1, hW1⟩ : ∃ W1, W1 = (w.alloc (.cells ca1 52)).alloc (.cells #[.int .i64 n, .int .i64 t] 58) := ⟨_, rfl⟩
  have R1 : W1.heap[w.heap.size]? = some (.cells ca1 52 (0, 0)) := (by rw [hW1]; exact hupK (heap_alloc_new w _) _)
  have S1 : W1.heap[w.heap.size + 1]? = some (.cells #[.int .i64 n, .int .i64 t] 58 (0, 0)) := (by rw [hW1]; exact heap_new2K w _ _)
  have B1 : Below w.heap.size w W1 := (by rw [hW1]; exact bupK (bupK (Below.refl _ _) _) _)
  have HI1 := hidK (isB_below HI.out B1)
  have HB1 := hidK B1
  clear hv hmm h hb hp HI
  go_enter Tryz.func44, Tryz.ntmps44
  go_upto_region 1 with fail
  have cn := cell_rowK S1 0 (.int .i64 n) rfl
  rw [← hW1]
  clear hW1
  go_upto_region 2 with (first
    | (refine wpList_load_row rfl _ _ rfl w.heap.size rfl _ _ _ _ R1 Tryz.underlying52 rfl (by kernel_rfl) ?_)
    | (go_at_call 53; refine (HC.out bs n _ HI1.out (by omega) (Nat.le_trans hs0 HB1.out.size) (by omega)).mono ?_; rintro e w2 ⟨rfl, i2, b2, k2⟩))
  have R2 := kept_row k2 R1 (by decide) (by omega)
  have HI2 := hidK i2
  have HB2 := hidK (((HB1.out).mono hs0).trans b2)
  clear R1 S1 cn i2 b2 k2 HI1 HB1
  go_wp2
  go_loopw [17] (fun i wx => ∃ k : Nat, i = .int .i64 k ∧ k ≤ m ∧ wx.heap[w.heap.size]? = some (.cells ca1 52 (0, 0)) ∧ IsB W0.heap.size b (bs ++ nb1 n ++ (L.take k).flatMap (fun x => nb1 x.pl.toNat)) wx ∧ Below W0.heap.size w wx) (fun i _ => m - (intOf i).toNat)
  case atStart => exact ⟨0, rfl, Nat.zero_le _, R2, by simpa using HI2.out, HB2.out⟩
  case round =>
    obtain ⟨k, rfl, hkn, hR, hI, hB⟩ := hrel
    have HBx := hidK hB
    have HIx := hidK hI
    have hws := hB.size
    clear R2 hI hB HI2 HB2
    by_cases hk : k < m
    · have kI : (k : Int) < (m : Int) := by omega
      have k0 : (0 : Int) ≤ (k : Int) := by omega
      have hkl : k < L.length := by have := HN.out; omega
      obtain ⟨⟨nm, pl⟩, hx⟩ : ∃ x, L[k]? = some x := ⟨_, List.getElem?_eq_getElem hkl⟩
      obtain ⟨g, off, cap, e1, d1, d2⟩ := (HV.out.on (HB.out.trans HBx.out)).atK hx
      have hpl := HP.out _ (List.mem_of_getElem? hx)
      simp only [] at hpl d1 d2
      obtain ⟨z, hz⟩ : ∃ z : Nat, pl = (z : Int) := ⟨pl.toNat, by omega⟩
      subst hz
      have hzz : z < 4294967296 := by omega
      have HX := hidK hx
      injection e1 with e1 e2 e3
      subst e1
      have hlen2 : (bs ++ nb1 n ++ (L.take k).flatMap (fun x => nb1 x.pl.toNat)).length + 4 ≤ 140737488355328 := by
        rw [List.length_append, List.length_append, nb1_len, flat_nb _ (fun x => nb1_len _)]
        have := List.length_take_le k L
        omega
      have HL2 := hidK hlen2
      clear hx hkl e2 e3 HV hlen2 hpl
      go_wp2_with (first
        | (refine wpList_store_kz rfl rfl _ _ _ rfl wr.heap.size 0 (.agg #[.string nm, .int .i64 z]) rfl rfl _ _ #[.string nm, .int .i64 z] (heap_alloc_new _ _) (by kernel_rfl) rfl rfl rfl ?_; intro W2 R2 q2; have B2 := q2.belowN (bupK (Below.refl wr.heap.size wr) _) (Nat.le_refl _) (Nat.le_refl _); have cc := cell_rowK R2 1 (.int .i64 z) rfl; have hR' := hkeepK B2 hR)
        | (refine wpList_load_row rfl _ _ rfl w.heap.size rfl _ _ _ _ hR' Tryz.underlying52 rfl (by kernel_rfl) ?_)
        | (go_at_call 53; refine (HC.out _ z _ (isB_below HIx.out B2) HL2.out (by have := B2.size; omega) hzz).mono ?_; rintro e w3 ⟨rfl, i3, b3, k3⟩))
      go_roundw
      case rel =>
        refine ⟨k + 1, by go_num, by omega, kept_row k3 hR' (by decide) (by omega), ?_, (HBx.out.trans (B2.mono (by omega))).trans b3⟩
        rw [take_snoc HX.out]
        simpa using i3
      case measure => simp [intOf]; omega
    · obtain rfl : k = m := by omega
      clear HV
      go_wp2
      go_end0
      refine ⟨rfl, ?_, HBx.out⟩
      have := HIx.out
      rw [List.take_of_length_le (by rw [HN.out]; exact Nat.le_refl _)] at this
      exact this
set_option maxHeartbeats 4000000 in
theorem writeRow2_c (W0 : World) (b n t : Nat) (bs : List UInt8) (v : Value) (L : List En) (w : World) (hv : RowE W0 v L) (h : IsB W0.heap.size b bs w) (hb : Below W0.heap.size W0 w) (hn : n < 4294967296) (hL : L.length ≤ 1073741824) (hlen : bs.length ≤ 1073741824) (hp : ∀ x ∈ L, 0 ≤ x.pl ∧ x.pl < 9223372036854775808) :
    Calls Tryz.prog 44 #[.agg ca2, .pointer (some ⟨b, 0, none⟩), v, .agg #[.int .i64 n, .int .i64 t]] w fun e w' => e = .returned (.tuple #[]) ∧ IsB W0.heap.size b (bs ++ nb2 n ++ L.flatMap (fun x => nb2 x.pl.toNat)) w' ∧ Below W0.heap.size w w' := by
  have hbl : b < w.heap.size := by rcases h with h | h <;> exact h.lt
  have hs0 := hb.size
  have HV := hidK hv
  have HP := hidK hp
  have HI := hidK h
  have HB := hidK hb
  obtain ⟨a1, c1, q1⟩ := hv.form
  obtain ⟨m, hmm⟩ : ∃ m, m = L.length := ⟨_, rfl⟩
  have HN := hidK hmm
  subst q1
  rw [← hmm] at hL ⊢ HV
  have HC : Hid (∀ (bs : List UInt8) (z : Nat) (wx : World), IsB W0.heap.size b bs wx → bs.length + 8 ≤ 140737488355328 → W0.heap.size ≤ wx.heap.size → z < 9223372036854775808 → Calls Tryz.prog 53 #[.agg ca2, .pointer (some ⟨b, 0, none⟩), .int .i64 z] wx fun e w' => e = .returned (.tuple #[]) ∧ IsB W0.heap.size b (bs ++ nb2 z) w' ∧ Below W0.heap.size wx w' ∧ Kept b wx w') := fun bs z wx h1 h2 h3 h4 => cstore2_c W0.heap.size b bs z wx h1 h2 h3 h4
  obtain ⟨W1, hW1⟩ : ∃ W1, W1 = (w.alloc (.cells ca2 52)).alloc (.cells #[.int .i64 n, .int .i64 t] 58) := ⟨_, rfl⟩
  have R1 : W1.heap[w.heap.size]? = some (.cells ca2 52 (0, 0)) := (by rw [hW1]; exact hupK (heap_alloc_new w _) _)
  have S1 : W1.heap[w.heap.size + 1]? = some (.cells #[.int .i64 n, .int .i64 t] 58 (0, 0)) := (by rw [hW1]; exact heap_new2K w _ _)
  have B1 : Below w.heap.size w W1 := (by rw [hW1]; exact bupK (bupK (Below.refl _ _) _) _)
  have HI1 := hidK (isB_below HI.out B1)
  have HB1 := hidK B1
  clear hv hmm h hb hp HI
  go_enter Tryz.func44, Tryz.ntmps44
  go_upto_region 1 with fail
  have cn := cell_rowK S1 0 (.int .i64 n) rfl
  rw [← hW1]
  clear hW1
  go_upto_region 2 with (first
    | (refine wpList_load_row rfl _ _ rfl w.heap.size rfl _ _ _ _ R1 Tryz.underlying52 rfl (by kernel_rfl) ?_)
    | (go_at_call 53; refine (HC.out bs n _ HI1.out (by omega) (Nat.le_trans hs0 HB1.out.size) (by omega)).mono ?_; rintro e w2 ⟨rfl, i2, b2, k2⟩))
  have R2 := kept_row k2 R1 (by decide) (by omega)
  have HI2 := hidK i2
  have HB2 := hidK (((HB1.out).mono hs0).trans b2)
  clear R1 S1 cn i2 b2 k2 HI1 HB1
  go_wp2
  go_loopw [17] (fun i wx => ∃ k : Nat, i = .int .i64 k ∧ k ≤ m ∧ wx.heap[w.heap.size]? = some (.cells ca2 52 (0, 0)) ∧ IsB W0.heap.size b (bs ++ nb2 n ++ (L.take k).flatMap (fun x => nb2 x.pl.toNat)) wx ∧ Below W0.heap.size w wx) (fun i _ => m - (intOf i).toNat)
  case atStart => exact ⟨0, rfl, Nat.zero_le _, R2, by simpa using HI2.out, HB2.out⟩
  case round =>
    obtain ⟨k, rfl, hkn, hR, hI, hB⟩ := hrel
    have HBx := hidK hB
    have HIx := hidK hI
    have hws := hB.size
    clear R2 hI hB HI2 HB2
    by_cases hk : k < m
    · have kI : (k : Int) < (m : Int) := by omega
      have k0 : (0 : Int) ≤ (k : Int) := by omega
      have hkl : k < L.length := by have := HN.out; omega
      obtain ⟨⟨nm, pl⟩, hx⟩ : ∃ x, L[k]? = some x := ⟨_, List.getElem?_eq_getElem hkl⟩
      obtain ⟨g, off, cap, e1, d1, d2⟩ := (HV.out.on (HB.out.trans HBx.out)).atK hx
      have hpl := HP.out _ (List.mem_of_getElem? hx)
      simp only [] at hpl d1 d2
      obtain ⟨z, hz⟩ : ∃ z : Nat, pl = (z : Int) := ⟨pl.toNat, by omega⟩
      subst hz
      have hzz : z < 9223372036854775808 := by omega
      have HX := hidK hx
      injection e1 with e1 e2 e3
      subst e1
      have hlen2 : (bs ++ nb2 n ++ (L.take k).flatMap (fun x => nb2 x.pl.toNat)).length + 8 ≤ 140737488355328 := by
        rw [List.length_append, List.length_append, nb2_len, flat_nb _ (fun x => nb2_len _)]
        have := List.length_take_le k L
        omega
      have HL2 := hidK hlen2
      clear hx hkl e2 e3 HV hlen2 hpl
      go_wp2_with (first
        | (refine wpList_store_kz rfl rfl _ _ _ rfl wr.heap.size 0 (.agg #[.string nm, .int .i64 z]) rfl rfl _ _ #[.string nm, .int .i64 z] (heap_alloc_new _ _) (by kernel_rfl) rfl rfl rfl ?_; intro W2 R2 q2; have B2 := q2.belowN (bupK (Below.refl wr.heap.size wr) _) (Nat.le_refl _) (Nat.le_refl _); have cc := cell_rowK R2 1 (.int .i64 z) rfl; have hR' := hkeepK B2 hR)
        | (refine wpList_load_row rfl _ _ rfl w.heap.size rfl _ _ _ _ hR' Tryz.underlying52 rfl (by kernel_rfl) ?_)
        | (go_at_call 53; refine (HC.out _ z _ (isB_below HIx.out B2) HL2.out (by have := B2.size; omega) hzz).mono ?_; rintro e w3 ⟨rfl, i3, b3, k3⟩))
      go_roundw
      case rel =>
        refine ⟨k + 1, by go_num, by omega, kept_row k3 hR' (by decide) (by omega), ?_, (HBx.out.trans (B2.mono (by omega))).trans b3⟩
        rw [take_snoc HX.out]
        simpa using i3
      case measure => simp [intOf]; omega
    · obtain rfl : k = m := by omega
      clear HV
      go_wp2
      go_end0
      refine ⟨rfl, ?_, HBx.out⟩
      have := HIx.out
      rw [List.take_of_length_le (by rw [HN.out]; exact Nat.le_refl _)] at this
      exact this
end Go.Proofs.YtegjklllnegghaaGreatDoor
