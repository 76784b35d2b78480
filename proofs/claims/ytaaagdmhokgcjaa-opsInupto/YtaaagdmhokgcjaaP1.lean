
-- placeOf, spot; Move, on both sides.
import Derived.Test.YtaaagdmhokgcjaaS2
namespace Go.Proofs.Ytaaagdmhokgcjaa
open Go.ChangeShapes Go.WideShapes Go.ChangeAt Go.RowKit
set_option linter.unusedVariables false
set_option maxRecDepth 100000
set_option linter.unusedSimpArgs false
theorem find_y (dd uu gg mm zz : Int) (nn dt : ByteArray) (B : Nat) (w : World) (hc : w.cell? ⟨B, 1, none⟩ = some (.string nn)) :
    Calls Try.prog 37 #[.agg #[.int .i64 dd, .int .i64 uu, .int .i64 gg, .int .i64 mm, .string nn, .int .i64 zz, .string dt], .pointer (some ⟨B, 0, none⟩)] w fun e w' => e = .returned (.bool true) ∧ Below w.heap.size w w' := by
  have c1 := cell_onA hc (bupK (Below.refl w.heap.size w) (.cells #[.int .i64 dd, .int .i64 uu, .int .i64 gg, .int .i64 mm, .string nn, .int .i64 zz, .string dt] 32))
  go_enter Try.func37, Try.ntmps37
  go_wp2
  go_ret
  exact ⟨rfl, bupK (Below.refl _ _) _⟩
theorem find_n (dd uu gg mm zz : Int) (nn dt pa : ByteArray) (B : Nat) (w : World) (hc : w.cell? ⟨B, 1, none⟩ = some (.string pa)) (hx : nn ≠ pa) :
    Calls Try.prog 37 #[.agg #[.int .i64 dd, .int .i64 uu, .int .i64 gg, .int .i64 mm, .string nn, .int .i64 zz, .string dt], .pointer (some ⟨B, 0, none⟩)] w fun e w' => e = .returned (.bool false) ∧ Below w.heap.size w w' := by
  have c1 := cell_onA hc (bupK (Below.refl w.heap.size w) (.cells #[.int .i64 dd, .int .i64 uu, .int .i64 gg, .int .i64 mm, .string nn, .int .i64 zz, .string dt] 32))
  have h1 := strNe hx
  go_enter Try.func37, Try.ntmps37
  go_wp2
  go_ret
  exact ⟨rfl, bupK (Below.refl _ _) _⟩
set_option maxHeartbeats 4000000 in
theorem idx_c (v : Value) (L : List Mx) (pa : ByteArray) (B : Nat) (w : World) (hv : RowM w v L) (hc : w.cell? ⟨B, 1, none⟩ = some (.string pa)) (hn : L.length ≤ 67108864) :
    Calls Try.prog 36 #[v, .func (.func 37) #[] #[.pointer (some ⟨B, 0, none⟩)]] w fun e w' => e = .returned (.int .i64 (nthI (nms L) pa 0)) ∧ Below w.heap.size w w' := by
  obtain ⟨a1, c1, q1, _, _⟩ := hv.form
  obtain ⟨n, hnn⟩ : ∃ n, n = L.length := ⟨_, rfl⟩
  have HN := hidK hnn
  have HV := hidK hv
  have HC := hidK hc
  obtain ⟨R, hR⟩ : ∃ R, R = nthI (nms L) pa 0 := ⟨_, rfl⟩
  have HR := hidK hR
  rw [← hR]
  subst q1
  rw [← hnn] at hn ⊢ HV
  clear hv hc hnn hR
  go_enter Try.func36, Try.ntmps36
  go_wp2
  go_loopw [8] (fun i wx => ∃ k : Nat, i = .int .i64 k ∧ k ≤ n ∧ (nthO ((nms L).drop k) pa 0).map (· + k) = nthO (nms L) pa 0 ∧ Below w.heap.size w wx) (fun i _ => n - (intOf i).toNat)
  case atStart => exact ⟨0, rfl, Nat.zero_le _, by rw [List.drop_zero]; cases nthO (nms L) pa 0 <;> rfl, Below.refl _ _⟩
  case round =>
    obtain ⟨k, rfl, hkn, hz, hB⟩ := hrel
    have HZ := hidK hz
    clear hz
    by_cases hk : k < n
    · have kI : (k : Int) < (n : Int) := by omega
      have k0 : (0 : Int) ≤ (k : Int) := by omega
      have hkl : k < L.length := by have := HN.out; omega
      obtain ⟨⟨dd, uu, gg, mm, nn, zz, dt⟩, hx⟩ : ∃ x, L[k]? = some x := ⟨_, List.getElem?_eq_getElem hkl⟩
      obtain ⟨b1, o1, p1, e1, d0, d1, d2, d3, d4, d5, d6⟩ := (HV.out.on hB).mx hx
      have HD := hidK (dropCons (nms_get hx))
      have hcx := cell_onA HC.out hB
      simp only [] at d0 d1 d2 d3 d4 d5 d6
      injection e1 with e1 e2 e3
      clear e2 e3
      subst e1
      clear hx hkl
      by_cases hq : nn = pa
      · subst hq
        have HF := hidK (find_y dd uu gg mm zz nn dt B wr hcx)
        have HE : Hid (R = (k : Int)) := by
          show _ = _
          have e := HZ.out
          rw [HD.out, nthO_hit rfl] at e
          have e2 : nthO (nms L) nn 0 = some k := by rw [← e]; simp
          rw [HR.out, nthI_some e2]
        clear hcx HZ HR HD
        go_wp2_with (go_at_call 37; refine HF.out.mono ?_; rintro e w3 ⟨rfl, hb3⟩)
        go_ret
        exact ⟨by rw [HE.out]; rfl, bel3K hB hb3⟩
      · have HF := hidK (find_n dd uu gg mm zz nn dt pa B wr hcx hq)
        have HE : Hid ((nthO ((nms L).drop (k + 1)) pa 0).map (· + (k + 1)) = nthO (nms L) pa 0) := by
          show _ = _
          have e := HZ.out
          rw [HD.out, nthO_miss hq, mapAdd] at e
          exact e
        clear hcx hq HZ HR HD
        go_wp2_with (go_at_call 37; refine HF.out.mono ?_; rintro e w3 ⟨rfl, hb3⟩)
        go_roundw
        case rel => exact ⟨k + 1, by go_num, by omega, HE.out, bel3K hB hb3⟩
        case measure => simp [intOf]; omega
    · obtain rfl : k = n := by omega
      have HE : Hid (R = -1) := by
        show _ = _
        have e := HZ.out
        rw [List.drop_eq_nil_of_le (by rw [List.length_map]; have := HN.out; omega)] at e
        rw [HR.out, nthI_none e.symm]
      clear HV HZ HR
      go_wp2
      go_ret
      exact ⟨by rw [HE.out]; rfl, hB⟩
/-- how many stand ahead of a block at this position -/
def spotO (L : List Mx) (pw : Int) (pa : ByteArray) : Option Nat := if pw = 1 then (nthO (nms L) pa 0).map (· + 1) else if pw = 2 then nthO (nms L) pa 0 else some L.length
theorem spotO_le {L : List Mx} {pw : Int} {pa : ByteArray} {p : Nat} (h : spotO L pw pa = some p) : p ≤ L.length := by
  unfold spotO at h
  split at h
  · obtain ⟨i, hi, rfl⟩ := Option.map_eq_some_iff.1 h
    have := (nthO_lt hi).1; rw [List.length_map] at this; omega
  · split at h
    · have := (nthO_lt h).1; rw [List.length_map] at this; omega
    · injection h with h; omega
def plN (o : Option Nat) : Int := match o with | some p => (p : Int) | none => 0
def plB (o : Option Nat) : Bool := match o with | some _ => true | none => false
def spN (o : Option Nat) : Int := match o with | some p => (p : Int) | none => -1
set_option maxHeartbeats 4000000 in
theorem placeOf_c (v : Value) (L : List Mx) (pw : Int) (pa : ByteArray) (w : World) (hv : RowM w v L) (hn : L.length ≤ 16777216) :
    Calls Try.prog 30 #[v, .agg #[.int .i64 pw, .string pa]] w fun e w' => e = .returned (.tuple #[.int .i64 (plN (spotO L pw pa)), .bool (plB (spotO L pw pa))]) ∧ Below w.heap.size w w' := by
  have HB0 := hidK (bupK (Below.refl w.heap.size w) (.cells #[.int .i64 pw, .string pa] 39))
  have c0 : (w.alloc (.cells #[.int .i64 pw, .string pa] 39)).cell? ⟨w.heap.size, 1, none⟩ = some (.string pa) := cell_rowK (heap_alloc_new w _) 1 _ rfl
  have c00 : (w.alloc (.cells #[.int .i64 pw, .string pa] 39)).cell? ⟨w.heap.size, 0, none⟩ = some (.int .i64 pw) := cell_rowK (heap_alloc_new w _) 0 _ rfl
  have HC0 := hidK c00
  have HI := hidK (idx_c v L pa w.heap.size (w.alloc (.cells #[.int .i64 pw, .string pa] 39)) (hv.on HB0.out) c0 (by omega))
  obtain ⟨a1, c1, q1, _, _⟩ := hv.form
  obtain ⟨n, hnn⟩ : ∃ n, n = L.length := ⟨_, rfl⟩
  have HN := hidK hnn
  obtain ⟨N, hN⟩ : ∃ N, N = plN (spotO L pw pa) := ⟨_, rfl⟩
  obtain ⟨T, hT⟩ : ∃ T, T = plB (spotO L pw pa) := ⟨_, rfl⟩
  have HNE := hidK hN
  have HTE := hidK hT
  rw [← hN, ← hT]
  obtain ⟨r, hr⟩ : ∃ r, r = nthI (nms L) pa 0 := ⟨_, rfl⟩
  have HR := hidK hr
  subst q1
  rw [← hnn] at hn HI ⊢
  rw [← hr] at HI
  clear hv hnn hN hT hr c0 c00
  go_enter Try.func30, Try.ntmps30
  by_cases h1 : pw = 1
  · subst h1
    cases hno : nthO (nms L) pa 0 with
    | none =>
      have hr1 : r = -1 := by rw [HR.out]; exact nthI_none hno
      have e0 : spotO L 1 pa = none := by unfold spotO; rw [if_pos rfl, hno]; rfl
      have e1 : N = 0 := by rw [HNE.out, e0]; rfl
      have e2 : T = false := by rw [HTE.out, e0]; rfl
      subst hr1
      subst e1
      subst e2
      clear HR HNE HTE hno e0
      go_wp2_with (go_at_call 36; refine HI.out.mono ?_; rintro e w3 ⟨rfl, hb3⟩)
      go_ret2
      exact ⟨rfl, bel3K HB0.out hb3⟩
    | some j =>
      have hr1 : r = (j : Int) := by rw [HR.out]; exact nthI_some hno
      have e0 : spotO L 1 pa = some (j + 1) := by unfold spotO; rw [if_pos rfl, hno]; rfl
      have e1 : N = (j : Int) + 1 := by rw [HNE.out, e0]; rfl
      have e2 : T = true := by rw [HTE.out, e0]; rfl
      have hj : j < n := by have := (nthO_lt hno).1; rw [List.length_map] at this; have := HN.out; omega
      have j0 : ¬ ((j : Int) < 0) := by omega
      subst hr1
      subst e1
      subst e2
      clear HR HNE HTE hno e0
      go_wp2_with (go_at_call 36; refine HI.out.mono ?_; rintro e w3 ⟨rfl, hb3⟩; have c3 := cell_onA HC0.out hb3)
      go_ret2
      exact ⟨by first | rfl | simp | go_num, bel3K HB0.out hb3⟩
  · by_cases h2 : pw = 2
    · subst h2
      cases hno : nthO (nms L) pa 0 with
      | none =>
        have hr1 : r = -1 := by rw [HR.out]; exact nthI_none hno
        have e0 : spotO L 2 pa = none := by unfold spotO; rw [if_neg (by decide), if_pos rfl, hno]
        have e1 : N = 0 := by rw [HNE.out, e0]; rfl
        have e2 : T = false := by rw [HTE.out, e0]; rfl
        subst hr1
        subst e1
        subst e2
        clear HR HNE HTE hno e0
        go_wp2_with (go_at_call 36; refine HI.out.mono ?_; rintro e w3 ⟨rfl, hb3⟩)
        go_ret2
        exact ⟨rfl, bel3K HB0.out hb3⟩
      | some j =>
        have hr1 : r = (j : Int) := by rw [HR.out]; exact nthI_some hno
        have e0 : spotO L 2 pa = some j := by unfold spotO; rw [if_neg (by decide), if_pos rfl, hno]
        have e1 : N = (j : Int) := by rw [HNE.out, e0]; rfl
        have e2 : T = true := by rw [HTE.out, e0]; rfl
        have hj : j < n := by have := (nthO_lt hno).1; rw [List.length_map] at this; have := HN.out; omega
        have j0 : ¬ ((j : Int) < 0) := by omega
        subst hr1
        subst e1
        subst e2
        clear HR HNE HTE hno e0
        go_wp2_with (go_at_call 36; refine HI.out.mono ?_; rintro e w3 ⟨rfl, hb3⟩; have c3 := cell_onA HC0.out hb3)
        go_ret2
        exact ⟨by first | rfl | simp | go_num, bel3K HB0.out hb3⟩
    · have b1 : (pw != 1) = true := by simp [h1]
      have b2 : (pw != 2) = true := by simp [h2]
      have e0 : spotO L pw pa = some L.length := by unfold spotO; rw [if_neg h1, if_neg h2]
      have e1 : N = (n : Int) := by rw [HNE.out, e0, HN.out]; rfl
      have e2 : T = true := by rw [HTE.out, e0]; rfl
      subst e1
      subst e2
      clear HR HNE HTE e0
      go_wp2
      go_ret2
      exact ⟨rfl, HB0.out⟩
set_option maxHeartbeats 4000000 in
theorem spot_c (v : Value) (L : List Mx) (pw : Int) (pa : ByteArray) (w : World) (hv : RowM w v L) (hn : L.length ≤ 16777216) :
    Calls Try.prog 35 #[v, .agg #[.int .i64 pw, .string pa]] w fun e w' => e = .returned (.int .i64 (spN (spotO L pw pa))) ∧ Below w.heap.size w w' := by
  have HB0 := hidK (bupK (Below.refl w.heap.size w) (.cells #[.int .i64 pw, .string pa] 39))
  have c00 : (w.alloc (.cells #[.int .i64 pw, .string pa] 39)).cell? ⟨w.heap.size, 0, none⟩ = some (.int .i64 pw) := cell_rowK (heap_alloc_new w _) 0 _ rfl
  have HC0 := hidK c00
  have HI := hidK (nth_c v L pa 0 (w.alloc (.cells #[.int .i64 pw, .string pa] 39)) (hv.on HB0.out) (by omega) hn)
  obtain ⟨a1, c1, q1, _, _⟩ := hv.form
  obtain ⟨n, hnn⟩ : ∃ n, n = L.length := ⟨_, rfl⟩
  have HN := hidK hnn
  obtain ⟨N, hN⟩ : ∃ N, N = spN (spotO L pw pa) := ⟨_, rfl⟩
  have HNE := hidK hN
  rw [← hN]
  obtain ⟨r, hr⟩ : ∃ r, r = nthI (nms L) pa 0 := ⟨_, rfl⟩
  have HR := hidK hr
  subst q1
  rw [← hnn] at hn HI ⊢
  rw [← hr] at HI
  clear hv hnn hN hr c00
  go_enter Try.func35, Try.ntmps35
  by_cases h1 : pw = 1
  · subst h1
    cases hno : nthO (nms L) pa 0 with
    | none =>
      have hr1 : r = -1 := by rw [HR.out]; exact nthI_none hno
      have e0 : spotO L 1 pa = none := by unfold spotO; rw [if_pos rfl, hno]; rfl
      have e1 : N = -1 := by rw [HNE.out, e0]; rfl
      subst hr1
      subst e1
      clear HR HNE hno e0
      go_wp2_with (go_at_call 34; refine HI.out.mono ?_; rintro e w3 ⟨rfl, hb3⟩; have c3 := cell_onA HC0.out hb3)
      go_ret
      exact ⟨rfl, bel3K HB0.out hb3⟩
    | some j =>
      have hr1 : r = (j : Int) := by rw [HR.out]; exact nthI_some hno
      have e0 : spotO L 1 pa = some (j + 1) := by unfold spotO; rw [if_pos rfl, hno]; rfl
      have e1 : N = (j : Int) + 1 := by rw [HNE.out, e0]; rfl
      have hj : j < n := by have := (nthO_lt hno).1; rw [List.length_map] at this; have := HN.out; omega
      have j0 : (0 : Int) ≤ (j : Int) := by omega
      subst hr1
      subst e1
      clear HR HNE hno e0
      go_wp2_with (go_at_call 34; refine HI.out.mono ?_; rintro e w3 ⟨rfl, hb3⟩; have c3 := cell_onA HC0.out hb3)
      go_ret
      exact ⟨by first | rfl | simp | go_num, bel3K HB0.out hb3⟩
  · by_cases h2 : pw = 2
    · subst h2
      cases hno : nthO (nms L) pa 0 with
      | none =>
        have hr1 : r = -1 := by rw [HR.out]; exact nthI_none hno
        have e0 : spotO L 2 pa = none := by unfold spotO; rw [if_neg (by decide), if_pos rfl, hno]
        have e1 : N = -1 := by rw [HNE.out, e0]; rfl
        subst hr1
        subst e1
        clear HR HNE hno e0
        go_wp2_with (go_at_call 34; refine HI.out.mono ?_; rintro e w3 ⟨rfl, hb3⟩; have c3 := cell_onA HC0.out hb3)
        go_ret
        exact ⟨rfl, bel3K HB0.out hb3⟩
      | some j =>
        have hr1 : r = (j : Int) := by rw [HR.out]; exact nthI_some hno
        have e0 : spotO L 2 pa = some j := by unfold spotO; rw [if_neg (by decide), if_pos rfl, hno]
        have e1 : N = (j : Int) := by rw [HNE.out, e0]; rfl
        have hj : j < n := by have := (nthO_lt hno).1; rw [List.length_map] at this; have := HN.out; omega
        have j0 : (0 : Int) ≤ (j : Int) := by omega
        subst hr1
        subst e1
        clear HR HNE hno e0
        go_wp2_with (go_at_call 34; refine HI.out.mono ?_; rintro e w3 ⟨rfl, hb3⟩; have c3 := cell_onA HC0.out hb3)
        go_ret
        exact ⟨by first | rfl | simp | go_num, bel3K HB0.out hb3⟩
    · have b1 : (pw != 1) = true := by simp [h1]
      have b2 : (pw != 2) = true := by simp [h2]
      have e0 : spotO L pw pa = some L.length := by unfold spotO; rw [if_neg h1, if_neg h2]
      have e1 : N = (n : Int) := by rw [HNE.out, e0, HN.out]; rfl
      subst e1
      clear HR HNE e0
      go_wp2
      go_ret
      exact ⟨rfl, HB0.out⟩
end Go.Proofs.Ytaaagdmhokgcjaa
