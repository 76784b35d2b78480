
-- index: names, what a form holds, what it reaches: contracts.
import Derived.Test.YtegjklllnegghaaGreatDoorSB
import Derived.Test.YtegjklllnegghaaGreatDoorC4
import Derived.Test.YtegjklllnegghaaGreatDoorEN
import Derived.Test.YtegjklllnegghaaGreatDoorCC
namespace Go.Proofs.YtegjklllnegghaaGreatDoor
open Go.ChangeShapes Go.WideShapes Go.ChangeAt Go.RowKit
set_option linter.unusedVariables false
set_option maxRecDepth 100000
/-- has a number of four bytes (eight: b) room for v? -/
def holdB (b : Bool) (v : Int) : Bool := decide (0 ≤ v) && (b || decide (v < 4294967296))
def reachB (b : Bool) (L : List En) : Bool := L.all (fun x => holdB b x.pl)
theorem info9K : (Tryz.prog.info? 9).map (fun i => (i.zero, i.size, i.bytes)) = some (some (.string ⟨#[]⟩), 1, 16) := by kernel_rfl
theorem mk_strsK (n : Nat) (hn : n ≤ 1073741824) (W : World) : (Instr.makeSlice 55 (.int .i64 n) (.int .i64 n)).run Tryz.prog W = .ok (.slice (some ⟨W.heap.size, 0, none⟩) n n) (W.alloc (.cells (madeCells #[.string ⟨#[]⟩] (n * 1)) 9)) := by
  obtain ⟨i0, hi, hz0, hz1, hz2⟩ := info_parts info9K
  rw [run_make W 55 9 i0 _ Tryz.underlying55 hi hz0 .i64 .i64 n n (by omega) (by omega) (by rw [hz2]; omega) (by omega), hz1, Int.toNat_natCast]
  rfl
theorem RowE.atK {w : World} {v : Value} {L : List En} {k : Nat} {x : En} (h : RowE w v L) (hx : L[k]? = some x) : ∃ b off cap, v = .slice (some ⟨b, off, none⟩) L.length cap ∧ w.cell? ⟨b, off + k * 2, none⟩ = some (.string x.name) ∧ w.cell? ⟨b, off + k * 2 + 1, none⟩ = some (.int .i64 x.pl) := by
  rcases h with ⟨rfl, _⟩ | ⟨b, off, cap, rfl, hc⟩
  · simp at hx
  · obtain ⟨c1, c2⟩ := hc k x hx
    exact ⟨b, off, cap, rfl, by rw [Nat.mul_comm]; exact c1, by rw [Nat.mul_comm]; exact c2⟩
theorem putAt_oneK (old : Array Value) (i : Nat) (v : Value) (h : i < old.size) (j : Nat) : (putAt old i #[v])[j]? = if j = i then some v else old[j]? := by
  unfold putAt
  simp only [List.getElem?_toArray, List.getElem?_append, List.length_append, List.length_take, Array.length_toList]
  have e : min i old.size = i := by omega
  rw [e]
  by_cases h1 : j < i
  · simp [h1, show j < i + 1 by omega, show ¬ j = i by omega]
  · by_cases h2 : j = i
    · subst h2; simp
    · simp [h2, show ¬ j < i + 1 by omega, show i + 1 + (j - (i + 1)) = j by omega]
theorem putAt_oneK_size (old : Array Value) (i : Nat) (v : Value) (h : i < old.size) : (putAt old i #[v]).size = old.size := by
  unfold putAt; simp; omega
/-- names half told -/
def NmUp (L : List En) (U n k : Nat) (wx : World) : Prop := ∃ row : Array Value, wx.heap[U]? = some (.cells row 9 (0, 0)) ∧ row.size = n ∧ ∀ j x, j < k → L[j]? = some x → row[j]? = some (.string x.name)
set_option maxHeartbeats 4000000 in
theorem namesOf_c (v : Value) (L : List En) (w : World) (hv : RowE w v L) (hn : L.length ≤ 1073741824) :
    Calls Tryz.prog 20 #[v] w fun e w' => ∃ ao cap, e = .returned (.slice ao L.length cap) ∧ RowS w' (.slice ao L.length cap) (L.map En.name) ∧ Below w.heap.size w w' := by
  obtain ⟨a1, c1, q1⟩ := hv.form
  obtain ⟨n, hnn⟩ : ∃ n, n = L.length := ⟨_, rfl⟩
  have HN := hidK hnn
  have HV := hidK hv
  subst q1
  rw [← hnn] at hn ⊢ HV
  have hmk := mk_strsK n (by omega)
  clear hv hnn
  go_enter Tryz.func20, Tryz.ntmps20
  go_wp2
  clear hmk
  go_loopw [11] (fun i wx => ∃ k : Nat, i = .int .i64 k ∧ k ≤ n ∧ NmUp L w.heap.size n k wx ∧ Below w.heap.size w wx) (fun i _ => n - (intOf i).toNat)
  case atStart => exact ⟨0, rfl, Nat.zero_le _, ⟨_, heap_alloc_new w _, by rw [size_madeCells], fun j x hj => absurd hj (Nat.not_lt_zero _)⟩, bupK (Below.refl _ _) _⟩
  case round =>
    obtain ⟨k, rfl, hkn, hU, hB⟩ := hrel
    by_cases hk : k < n
    · have kI : (k : Int) < (n : Int) := by omega
      have k0 : (0 : Int) ≤ (k : Int) := by omega
      have hkl : k < L.length := by have := HN.out; omega
      obtain ⟨⟨nm, pl⟩, hx⟩ : ∃ x, L[k]? = some x := ⟨_, List.getElem?_eq_getElem hkl⟩
      obtain ⟨b, off, cap, e1, d1, d2⟩ := (HV.out.on hB).atK hx
      have HX := hidK hx
      injection e1 with e1 e2 e3
      subst e1
      simp only [] at d1 d2
      obtain ⟨row, r1, r2, r3⟩ := hU
      have HR3 := hidK r3
      have HB := hidK hB
      have hUl : w.heap.size < wr.heap.size := (Array.getElem?_eq_some_iff.1 r1).1
      have hf := hidK (Nat.ble_eq_true_of_le (show k + 1 ≤ row.size by omega))
      clear hx hkl e2 e3 HV r3 hB
      go_wp2_with (first
        | (refine wpList_store_kz rfl rfl _ _ _ rfl wr.heap.size 0 (.agg #[.string nm, .int .i64 pl]) rfl rfl _ _ #[.string nm, .int .i64 pl] (heap_alloc_new _ _) (by kernel_rfl) rfl rfl rfl ?_; intro W2 R2 q2; have B2 := q2.belowN (bupK (Below.refl wr.heap.size wr) _) (Nat.le_refl _) (Nat.le_refl _); have cc := cell_rowK R2 0 (.string nm) rfl; have r1' := hkeepK B2 r1)
        | (refine wpList_store_kz rfl rfl _ _ _ rfl w.heap.size k (.string nm) (by first | rfl | (simp [Act.eval]; done)) rfl _ _ (putAt row k #[.string nm]) r1' (by kernel_rfl) hf.out rfl rfl ?_; intro W3 R3 q3))
      go_roundw
      case rel =>
        refine ⟨k + 1, by go_num, by omega, ⟨_, R3, by rw [putAt_oneK_size _ _ _ (by omega)]; exact r2, fun j x hj hx => ?_⟩, q3.belowN (bel3K HB.out B2) (Nat.le_refl _) (Nat.le_refl _)⟩
        rw [putAt_oneK _ _ _ (by omega)]
        by_cases e : j = k
        · subst e
          rw [HX.out] at hx; injection hx with hx; rw [← hx, if_pos rfl]
        · rw [if_neg e]; exact HR3.out j x (by omega) hx
      case measure => simp [intOf]; omega
    · obtain rfl : k = n := by omega
      have HU := hidK hU
      clear HV hU
      go_wp2
      go_ret
      obtain ⟨row, r1, r2, r3⟩ := HU.out
      refine ⟨_, _, rfl, .inr ⟨w.heap.size, 0, k, by rw [List.length_map, ← HN.out], fun j hj => ?_⟩, hB⟩
      rw [List.length_map] at hj
      rw [Nat.zero_add]
      have hx := List.getElem?_eq_getElem hj
      refine cell_rowK r1 j _ ((r3 j _ (by have := HN.out; omega) hx).trans ?_)
      simp [List.getD, hj]
theorem holds_ca1 (v : Int) (w : World) : Calls Tryz.prog 34 #[.agg ca1, .int .i64 v] w fun e w' => e = .returned (.bool (holdB false v)) ∧ Below w.heap.size w w' := by
  unfold holdB ca1
  by_cases h0 : 0 ≤ v
  · by_cases h1 : v < 4294967296
    · have a1 : decide ((0 : Int) ≤ v) = true := decide_eq_true h0
      have a2 : decide (v < 4294967296) = true := decide_eq_true h1
      go_enter Tryz.func34, Tryz.ntmps34
      go_wp2
      go_ret
      exact ⟨by simp [h0, h1], bupK (Below.refl _ _) _⟩
    · have a1 : decide ((0 : Int) ≤ v) = true := decide_eq_true h0
      have a2 : decide (v < 4294967296) = false := decide_eq_false h1
      go_enter Tryz.func34, Tryz.ntmps34
      go_wp2
      go_ret
      exact ⟨by simp, bupK (Below.refl _ _) _⟩
  · have a1 : decide ((0 : Int) ≤ v) = false := decide_eq_false h0
    go_enter Tryz.func34, Tryz.ntmps34
    go_wp2
    go_ret
    exact ⟨by simp, bupK (Below.refl _ _) _⟩
set_option maxHeartbeats 4000000 in
theorem reaches_ca1 (v : Value) (L : List En) (w : World) (hv : RowE w v L) (hn : L.length ≤ 1073741824) :
    Calls Tryz.prog 22 #[.agg ca1, v] w fun e w' => e = .returned (.bool (reachB false L)) ∧ Below w.heap.size w w' := by
  have R0 : (w.alloc (.cells ca1 52)).heap[w.heap.size]? = some (.cells ca1 52 (0, 0)) := heap_alloc_new w _
  obtain ⟨a1, c1, q1⟩ := hv.form
  obtain ⟨n, hnn⟩ : ∃ n, n = L.length := ⟨_, rfl⟩
  have HN := hidK hnn
  have HV := hidK hv
  have HH : Hid (∀ z w, Calls Tryz.prog 34 #[.agg ca1, .int .i64 z] w fun e w' => e = .returned (.bool (holdB false z)) ∧ Below w.heap.size w w') := fun z w => holds_ca1 z w
  subst q1
  rw [← hnn] at hn ⊢ HV
  clear hv hnn
  go_enter Tryz.func22, Tryz.ntmps22
  go_wp2
  go_loopw [9] (fun i wx => ∃ k : Nat, i = .int .i64 k ∧ k ≤ n ∧ (∀ j x, j < k → L[j]? = some x → holdB false x.pl = true) ∧ wx.heap[w.heap.size]? = some (.cells ca1 52 (0, 0)) ∧ Below w.heap.size w wx) (fun i _ => n - (intOf i).toNat)
  case atStart => exact ⟨0, rfl, Nat.zero_le _, fun j x h => absurd h (Nat.not_lt_zero _), R0, bupK (Below.refl _ _) _⟩
  case round =>
    obtain ⟨k, rfl, hkn, hok, hR, hB⟩ := hrel
    have HOK := hidK hok
    clear hok R0
    by_cases hk : k < n
    · have kI : (k : Int) < (n : Int) := by omega
      have k0 : (0 : Int) ≤ (k : Int) := by omega
      have hkl : k < L.length := by have := HN.out; omega
      obtain ⟨⟨nm, pl⟩, hx⟩ : ∃ x, L[k]? = some x := ⟨_, List.getElem?_eq_getElem hkl⟩
      obtain ⟨b, off, cap, e1, d1, d2⟩ := (HV.out.on hB).atK hx
      have HX := hidK hx
      injection e1 with e1 e2 e3
      subst e1
      simp only [] at d1 d2
      have HB := hidK hB
      clear hx hkl e2 e3 HV hB
      cases hq : holdB false pl with
      | true =>
        have HH' := hidK (fun w => HH.out pl w)
        rw [hq] at HH'
        have HQ := hidK hq
        clear hq
        go_wp2_with (first
          | (refine wpList_store_kz rfl rfl _ _ _ rfl wr.heap.size 0 (.agg #[.string nm, .int .i64 pl]) rfl rfl _ _ #[.string nm, .int .i64 pl] (heap_alloc_new _ _) (by kernel_rfl) rfl rfl rfl ?_; intro W2 R2 q2; have B2 := q2.belowN (bupK (Below.refl wr.heap.size wr) _) (Nat.le_refl _) (Nat.le_refl _); have cc := cell_rowK R2 1 (.int .i64 pl) rfl; have hR' := hkeepK B2 hR)
          | (refine wpList_load_row rfl _ _ rfl w.heap.size rfl _ _ _ _ hR' Tryz.underlying52 rfl (by kernel_rfl) ?_)
          | (go_at_call 34; refine (HH'.out _).mono ?_; rintro e w3 ⟨rfl, b3⟩))
        go_roundw
        case rel =>
          refine ⟨k + 1, by go_num, by omega, fun j x hj hx => ?_, hkeepK b3 hR', bel3K (bel3K HB.out B2) b3⟩
          by_cases e : j = k
          · subst e; rw [HX.out] at hx; injection hx with hx; rw [← hx]; exact HQ.out
          · exact HOK.out j x (by omega) hx
        case measure => simp [intOf]; omega
      | false =>
        have HH' := hidK (fun w => HH.out pl w)
        rw [hq] at HH'
        have HA : Hid (reachB false L = false) := (by
          cases q : reachB false L
          · rfl
          · unfold reachB at q
            rw [List.all_eq_true] at q
            have := q _ (List.mem_of_getElem? HX.out)
            rw [hq] at this; cases this)
        clear hq
        go_wp2_with (first
          | (refine wpList_store_kz rfl rfl _ _ _ rfl wr.heap.size 0 (.agg #[.string nm, .int .i64 pl]) rfl rfl _ _ #[.string nm, .int .i64 pl] (heap_alloc_new _ _) (by kernel_rfl) rfl rfl rfl ?_; intro W2 R2 q2; have B2 := q2.belowN (bupK (Below.refl wr.heap.size wr) _) (Nat.le_refl _) (Nat.le_refl _); have cc := cell_rowK R2 1 (.int .i64 pl) rfl; have hR' := hkeepK B2 hR)
          | (refine wpList_load_row rfl _ _ rfl w.heap.size rfl _ _ _ _ hR' Tryz.underlying52 rfl (by kernel_rfl) ?_)
          | (go_at_call 34; refine (HH'.out _).mono ?_; rintro e w3 ⟨rfl, b3⟩))
        go_ret
        exact ⟨by rw [HA.out]; rfl, bel3K (bel3K HB.out B2) b3⟩
    · obtain rfl : k = n := by omega
      have HA : Hid (reachB false L = true) := (by
        show _ = _
        unfold reachB
        rw [List.all_eq_true]
        intro x hx
        obtain ⟨j, hj, e⟩ := List.mem_iff_getElem.1 hx
        exact HOK.out j x (by have := HN.out; omega) (by rw [List.getElem?_eq_getElem hj, e]))
      clear HV
      go_wp2
      go_ret
      exact ⟨by rw [HA.out]; rfl, hB⟩
theorem holds_ca2 (v : Int) (w : World) : Calls Tryz.prog 34 #[.agg ca2, .int .i64 v] w fun e w' => e = .returned (.bool (holdB true v)) ∧ Below w.heap.size w w' := by
  unfold holdB ca2
  by_cases h0 : 0 ≤ v
  · by_cases h1 : v < 4294967296
    · have a1 : decide ((0 : Int) ≤ v) = true := decide_eq_true h0
      have a2 : decide (v < 4294967296) = true := decide_eq_true h1
      go_enter Tryz.func34, Tryz.ntmps34
      go_wp2
      go_ret
      exact ⟨by simp [h0, h1], bupK (Below.refl _ _) _⟩
    · have a1 : decide ((0 : Int) ≤ v) = true := decide_eq_true h0
      have a2 : decide (v < 4294967296) = false := decide_eq_false h1
      go_enter Tryz.func34, Tryz.ntmps34
      go_wp2
      go_ret
      exact ⟨by simp, bupK (Below.refl _ _) _⟩
  · have a1 : decide ((0 : Int) ≤ v) = false := decide_eq_false h0
    go_enter Tryz.func34, Tryz.ntmps34
    go_wp2
    go_ret
    exact ⟨by simp, bupK (Below.refl _ _) _⟩
set_option maxHeartbeats 4000000 in
theorem reaches_ca2 (v : Value) (L : List En) (w : World) (hv : RowE w v L) (hn : L.length ≤ 1073741824) :
    Calls Tryz.prog 22 #[.agg ca2, v] w fun e w' => e = .returned (.bool (reachB true L)) ∧ Below w.heap.size w w' := by
  have R0 : (w.alloc (.cells ca2 52)).heap[w.heap.size]? = some (.cells ca2 52 (0, 0)) := heap_alloc_new w _
  obtain ⟨a1, c1, q1⟩ := hv.form
  obtain ⟨n, hnn⟩ : ∃ n, n = L.length := ⟨_, rfl⟩
  have HN := hidK hnn
  have HV := hidK hv
  have HH : Hid (∀ z w, Calls Tryz.prog 34 #[.agg ca2, .int .i64 z] w fun e w' => e = .returned (.bool (holdB true z)) ∧ Below w.heap.size w w') := fun z w => holds_ca2 z w
  subst q1
  rw [← hnn] at hn ⊢ HV
  clear hv hnn
  go_enter Tryz.func22, Tryz.ntmps22
  go_wp2
  go_loopw [9] (fun i wx => ∃ k : Nat, i = .int .i64 k ∧ k ≤ n ∧ (∀ j x, j < k → L[j]? = some x → holdB true x.pl = true) ∧ wx.heap[w.heap.size]? = some (.cells ca2 52 (0, 0)) ∧ Below w.heap.size w wx) (fun i _ => n - (intOf i).toNat)
  case atStart => exact ⟨0, rfl, Nat.zero_le _, fun j x h => absurd h (Nat.not_lt_zero _), R0, bupK (Below.refl _ _) _⟩
  case round =>
    obtain ⟨k, rfl, hkn, hok, hR, hB⟩ := hrel
    have HOK := hidK hok
    clear hok R0
    by_cases hk : k < n
    · have kI : (k : Int) < (n : Int) := by omega
      have k0 : (0 : Int) ≤ (k : Int) := by omega
      have hkl : k < L.length := by have := HN.out; omega
      obtain ⟨⟨nm, pl⟩, hx⟩ : ∃ x, L[k]? = some x := ⟨_, List.getElem?_eq_getElem hkl⟩
      obtain ⟨b, off, cap, e1, d1, d2⟩ := (HV.out.on hB).atK hx
      have HX := hidK hx
      injection e1 with e1 e2 e3
      subst e1
      simp only [] at d1 d2
      have HB := hidK hB
      clear hx hkl e2 e3 HV hB
      cases hq : holdB true pl with
      | true =>
        have HH' := hidK (fun w => HH.out pl w)
        rw [hq] at HH'
        have HQ := hidK hq
        clear hq
        go_wp2_with (first
          | (refine wpList_store_kz rfl rfl _ _ _ rfl wr.heap.size 0 (.agg #[.string nm, .int .i64 pl]) rfl rfl _ _ #[.string nm, .int .i64 pl] (heap_alloc_new _ _) (by kernel_rfl) rfl rfl rfl ?_; intro W2 R2 q2; have B2 := q2.belowN (bupK (Below.refl wr.heap.size wr) _) (Nat.le_refl _) (Nat.le_refl _); have cc := cell_rowK R2 1 (.int .i64 pl) rfl; have hR' := hkeepK B2 hR)
          | (refine wpList_load_row rfl _ _ rfl w.heap.size rfl _ _ _ _ hR' Tryz.underlying52 rfl (by kernel_rfl) ?_)
          | (go_at_call 34; refine (HH'.out _).mono ?_; rintro e w3 ⟨rfl, b3⟩))
        go_roundw
        case rel =>
          refine ⟨k + 1, by go_num, by omega, fun j x hj hx => ?_, hkeepK b3 hR', bel3K (bel3K HB.out B2) b3⟩
          by_cases e : j = k
          · subst e; rw [HX.out] at hx; injection hx with hx; rw [← hx]; exact HQ.out
          · exact HOK.out j x (by omega) hx
        case measure => simp [intOf]; omega
      | false =>
        have HH' := hidK (fun w => HH.out pl w)
        rw [hq] at HH'
        have HA : Hid (reachB true L = false) := (by
          cases q : reachB true L
          · rfl
          · unfold reachB at q
            rw [List.all_eq_true] at q
            have := q _ (List.mem_of_getElem? HX.out)
            rw [hq] at this; cases this)
        clear hq
        go_wp2_with (first
          | (refine wpList_store_kz rfl rfl _ _ _ rfl wr.heap.size 0 (.agg #[.string nm, .int .i64 pl]) rfl rfl _ _ #[.string nm, .int .i64 pl] (heap_alloc_new _ _) (by kernel_rfl) rfl rfl rfl ?_; intro W2 R2 q2; have B2 := q2.belowN (bupK (Below.refl wr.heap.size wr) _) (Nat.le_refl _) (Nat.le_refl _); have cc := cell_rowK R2 1 (.int .i64 pl) rfl; have hR' := hkeepK B2 hR)
          | (refine wpList_load_row rfl _ _ rfl w.heap.size rfl _ _ _ _ hR' Tryz.underlying52 rfl (by kernel_rfl) ?_)
          | (go_at_call 34; refine (HH'.out _).mono ?_; rintro e w3 ⟨rfl, b3⟩))
        go_ret
        exact ⟨by rw [HA.out]; rfl, bel3K (bel3K HB.out B2) b3⟩
    · obtain rfl : k = n := by omega
      have HA : Hid (reachB true L = true) := (by
        show _ = _
        unfold reachB
        rw [List.all_eq_true]
        intro x hx
        obtain ⟨j, hj, e⟩ := List.mem_iff_getElem.1 hx
        exact HOK.out j x (by have := HN.out; omega) (by rw [List.getElem?_eq_getElem hj, e]))
      clear HV
      go_wp2
      go_ret
      exact ⟨by rw [HA.out]; rfl, hB⟩
theorem holds_ca3 (v : Int) (w : World) : Calls Tryz.prog 34 #[.agg ca3, .int .i64 v] w fun e w' => e = .returned (.bool (holdB false v)) ∧ Below w.heap.size w w' := by
  unfold holdB ca3
  by_cases h0 : 0 ≤ v
  · by_cases h1 : v < 4294967296
    · have a1 : decide ((0 : Int) ≤ v) = true := decide_eq_true h0
      have a2 : decide (v < 4294967296) = true := decide_eq_true h1
      go_enter Tryz.func34, Tryz.ntmps34
      go_wp2
      go_ret
      exact ⟨by simp [h0, h1], bupK (Below.refl _ _) _⟩
    · have a1 : decide ((0 : Int) ≤ v) = true := decide_eq_true h0
      have a2 : decide (v < 4294967296) = false := decide_eq_false h1
      go_enter Tryz.func34, Tryz.ntmps34
      go_wp2
      go_ret
      exact ⟨by simp, bupK (Below.refl _ _) _⟩
  · have a1 : decide ((0 : Int) ≤ v) = false := decide_eq_false h0
    go_enter Tryz.func34, Tryz.ntmps34
    go_wp2
    go_ret
    exact ⟨by simp, bupK (Below.refl _ _) _⟩
set_option maxHeartbeats 4000000 in
theorem reaches_ca3 (v : Value) (L : List En) (w : World) (hv : RowE w v L) (hn : L.length ≤ 1073741824) :
    Calls Tryz.prog 22 #[.agg ca3, v] w fun e w' => e = .returned (.bool (reachB false L)) ∧ Below w.heap.size w w' := by
  have R0 : (w.alloc (.cells ca3 52)).heap[w.heap.size]? = some (.cells ca3 52 (0, 0)) := heap_alloc_new w _
  obtain ⟨a1, c1, q1⟩ := hv.form
  obtain ⟨n, hnn⟩ : ∃ n, n = L.length := ⟨_, rfl⟩
  have HN := hidK hnn
  have HV := hidK hv
  have HH : Hid (∀ z w, Calls Tryz.prog 34 #[.agg ca3, .int .i64 z] w fun e w' => e = .returned (.bool (holdB false z)) ∧ Below w.heap.size w w') := fun z w => holds_ca3 z w
  subst q1
  rw [← hnn] at hn ⊢ HV
  clear hv hnn
  go_enter Tryz.func22, Tryz.ntmps22
  go_wp2
  go_loopw [9] (fun i wx => ∃ k : Nat, i = .int .i64 k ∧ k ≤ n ∧ (∀ j x, j < k → L[j]? = some x → holdB false x.pl = true) ∧ wx.heap[w.heap.size]? = some (.cells ca3 52 (0, 0)) ∧ Below w.heap.size w wx) (fun i _ => n - (intOf i).toNat)
  case atStart => exact ⟨0, rfl, Nat.zero_le _, fun j x h => absurd h (Nat.not_lt_zero _), R0, bupK (Below.refl _ _) _⟩
  case round =>
    obtain ⟨k, rfl, hkn, hok, hR, hB⟩ := hrel
    have HOK := hidK hok
    clear hok R0
    by_cases hk : k < n
    · have kI : (k : Int) < (n : Int) := by omega
      have k0 : (0 : Int) ≤ (k : Int) := by omega
      have hkl : k < L.length := by have := HN.out; omega
      obtain ⟨⟨nm, pl⟩, hx⟩ : ∃ x, L[k]? = some x := ⟨_, List.getElem?_eq_getElem hkl⟩
      obtain ⟨b, off, cap, e1, d1, d2⟩ := (HV.out.on hB).atK hx
      have HX := hidK hx
      injection e1 with e1 e2 e3
      subst e1
      simp only [] at d1 d2
      have HB := hidK hB
      clear hx hkl e2 e3 HV hB
      cases hq : holdB false pl with
      | true =>
        have HH' := hidK (fun w => HH.out pl w)
        rw [hq] at HH'
        have HQ := hidK hq
        clear hq
        go_wp2_with (first
          | (refine wpList_store_kz rfl rfl _ _ _ rfl wr.heap.size 0 (.agg #[.string nm, .int .i64 pl]) rfl rfl _ _ #[.string nm, .int .i64 pl] (heap_alloc_new _ _) (by kernel_rfl) rfl rfl rfl ?_; intro W2 R2 q2; have B2 := q2.belowN (bupK (Below.refl wr.heap.size wr) _) (Nat.le_refl _) (Nat.le_refl _); have cc := cell_rowK R2 1 (.int .i64 pl) rfl; have hR' := hkeepK B2 hR)
          | (refine wpList_load_row rfl _ _ rfl w.heap.size rfl _ _ _ _ hR' Tryz.underlying52 rfl (by kernel_rfl) ?_)
          | (go_at_call 34; refine (HH'.out _).mono ?_; rintro e w3 ⟨rfl, b3⟩))
        go_roundw
        case rel =>
          refine ⟨k + 1, by go_num, by omega, fun j x hj hx => ?_, hkeepK b3 hR', bel3K (bel3K HB.out B2) b3⟩
          by_cases e : j = k
          · subst e; rw [HX.out] at hx; injection hx with hx; rw [← hx]; exact HQ.out
          · exact HOK.out j x (by omega) hx
        case measure => simp [intOf]; omega
      | false =>
        have HH' := hidK (fun w => HH.out pl w)
        rw [hq] at HH'
        have HA : Hid (reachB false L = false) := (by
          cases q : reachB false L
          · rfl
          · unfold reachB at q
            rw [List.all_eq_true] at q
            have := q _ (List.mem_of_getElem? HX.out)
            rw [hq] at this; cases this)
        clear hq
        go_wp2_with (first
          | (refine wpList_store_kz rfl rfl _ _ _ rfl wr.heap.size 0 (.agg #[.string nm, .int .i64 pl]) rfl rfl _ _ #[.string nm, .int .i64 pl] (heap_alloc_new _ _) (by kernel_rfl) rfl rfl rfl ?_; intro W2 R2 q2; have B2 := q2.belowN (bupK (Below.refl wr.heap.size wr) _) (Nat.le_refl _) (Nat.le_refl _); have cc := cell_rowK R2 1 (.int .i64 pl) rfl; have hR' := hkeepK B2 hR)
          | (refine wpList_load_row rfl _ _ rfl w.heap.size rfl _ _ _ _ hR' Tryz.underlying52 rfl (by kernel_rfl) ?_)
          | (go_at_call 34; refine (HH'.out _).mono ?_; rintro e w3 ⟨rfl, b3⟩))
        go_ret
        exact ⟨by rw [HA.out]; rfl, bel3K (bel3K HB.out B2) b3⟩
    · obtain rfl : k = n := by omega
      have HA : Hid (reachB false L = true) := (by
        show _ = _
        unfold reachB
        rw [List.all_eq_true]
        intro x hx
        obtain ⟨j, hj, e⟩ := List.mem_iff_getElem.1 hx
        exact HOK.out j x (by have := HN.out; omega) (by rw [List.getElem?_eq_getElem hj, e]))
      clear HV
      go_wp2
      go_ret
      exact ⟨by rw [HA.out]; rfl, hB⟩
end Go.Proofs.YtegjklllnegghaaGreatDoor
