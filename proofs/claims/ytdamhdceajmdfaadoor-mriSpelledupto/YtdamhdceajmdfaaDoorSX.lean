
-- MriSpelled's walk.
import Derived.Test.YtdamhdceajmdfaaDoorSW
import Derived.Test.YtdamhdceajmdfaaDoorCY
import Derived.Test.YtdamhdceajmdfaaDoorDK
import Derived.Test.YtdamhdceajmdfaaDoorT6
namespace Go.Proofs.YtdamhdceajmdfaaDoor
open Go.ChangeShapes Go.WideShapes Go.ChangeAt Go.RowKit Go.MapKept
set_option linter.unusedVariables false
set_option maxRecDepth 100000
set_option linter.unusedSimpArgs false
theorem totR_filterS (L : List Mr) : totR (L.filter cleanM) ≤ totR L := by
  induction L with
  | nil => simp
  | cons c r ih =>
    rw [List.filter_cons]
    split
    · rw [totR_cons, totR_cons]; omega
    · rw [totR_cons]; omega
def SpRel (w1 : World) (L : List Mr) (n : Nat) (s i : Value) (wx : World) : Prop := ∃ (k : Nat) (t : List UInt8), i = .int .i64 k ∧ k ≤ n ∧ s = .string (byB t) ∧ Rd t (L.take k) ∧ t.length ≤ 11 + 12 * totR (L.take k) ∧ Below w1.heap.size w1 wx
set_option maxHeartbeats 16000000 in
theorem mriSpelled_w (v : Value) (P : List (Mr × Value)) (x : Int) (w : World) (hV : VT w) (hLT : LT w) (h : RowR w v P) (ht : totR (P.map (·.1)) ≤ 1048576) :
    Calls Tryd.prog 5 #[v, .int .i64 x] w fun e w' => e = .returned (.bool true) ∧ Below w.heap.size w w' := by
  have HVT := hidK hV
  have HLT := hidK hLT
  obtain ⟨L, hL⟩ : ∃ L, L = (P.map (·.1)).filter cleanM := ⟨_, rfl⟩
  have hcl : ∀ c ∈ L, cleanM c = true := fun c hc => by rw [hL] at hc; exact (List.mem_filter.1 hc).2
  have htl : totR L ≤ 1048576 := by rw [hL]; exact Nat.le_trans (totR_filterS _) ht
  have hn := totR_len L
  have H1 : Hid (Calls Tryd.prog 12 #[v] w fun e w' => ∃ v' P', e = .returned v' ∧ RowR w' v' P' ∧ P'.map (·.1) = L ∧ (∀ p ∈ P', p ∈ P) ∧ Below w.heap.size w w') := by
    rw [hL]; exact cleaned_c v P w h (by omega)
  have H4 : Hid (∀ u1 u2 Q1 Q2 wx, RowR wx u1 Q1 → RowR wx u2 Q2 → Q1.map (·.1) = L → Q2.map (·.1) = L → Calls Tryd.prog 11 #[u1, u2] wx fun e w' => e = .returned (.bool true) ∧ Below wx.heap.size wx w') := fun u1 u2 Q1 Q2 wx h1 h2 e1 e2 => sameList_c u1 u2 Q1 Q2 wx h1 h2 (by rw [e1, e2]) (by rw [e1]; omega)
  obtain ⟨n, hnn⟩ : ∃ n, n = L.length := ⟨_, rfl⟩
  have HNN := hidK hnn
  have HCL := hidK hcl
  have HTL := hidK htl
  have hn2 : n ≤ 1048576 := by omega
  clear hV hLT h ht hL hcl htl hn hnn
  go_enter Tryd.func5, Tryd.ntmps5
  go_upto_region 2 with (go_at_call 12; refine H1.out.mono ?_; rintro e w1 ⟨v1, P1, rfl, o1, e1, m1, b1⟩; have HO1 := hidK o1; have HE1 := hidK e1; have HB1 := hidK b1; clear o1 e1 m1 b1)
  clear H1
  obtain ⟨va, vc, hv1, _⟩ := HO1.out.row.form
  have hl2 : P1.length = n := by have := congrArg List.length HE1.out; rw [List.length_map] at this; rw [this, ← HNN.out]
  rw [hl2] at hv1
  subst hv1
  have HL2 := hidK hl2
  clear hl2
  go_wp2
  go_loopw [6, 7] (fun s i wx => SpRel w1 L n s i wx) (fun _ i _ => n - (intOf i).toNat)
  case atStart => exact ⟨0, [42, 32, 97, 32, 115, 99, 114, 105, 112, 116, 10], rfl, Nat.zero_le _, rfl, rd_head, by simp, Below.refl _ _⟩
  case round =>
    obtain ⟨k, t, rfl, hkn, rfl, hR, htl, hB⟩ := hrel
    have HR := hidK hR
    have HB := hidK hB
    have HTT := hidK htl
    have htk := totR_take L k
    have htl2 : t.length ≤ 12582923 := by have := HTL.out; omega
    clear hR hB htl htk
    by_cases hk : k < n
    · have kI : (k : Int) < (n : Int) := by omega
      have k0 : (0 : Int) ≤ (k : Int) := by omega
      have hkl : k < P1.length := by have := HL2.out; omega
      obtain ⟨⟨⟨vv, nn, ns⟩, uu⟩, hx⟩ : ∃ x, P1[k]? = some x := ⟨_, List.getElem?_eq_getElem hkl⟩
      have hxl : L[k]? = some ⟨vv, nn, ns⟩ := by rw [← HE1.out, List.getElem?_map, hx]; rfl
      have hm := totR_mem hxl
      have hsz : nn.size ≤ 16777216 ∧ sumS ns ≤ 16777216 := by have := HTL.out; unfold szM at hm; simp only at hm; omega
      obtain ⟨kk, hkk⟩ := clean_parts (HCL.out _ (List.mem_of_getElem? hxl))
      have hvv : vv = (kk : Int) := hkk.v
      subst hvv
      obtain ⟨b1, o1, p1, e1, d0, d1, d2⟩ := (HO1.out.on HB.out).at hx
      have hNm := (HO1.out.on HB.out).names _ (List.mem_of_getElem? hx)
      simp only [] at d0 d1 d2 hNm
      obtain ⟨ao, cap, hu⟩ := hNm.slice
      have HTK := hidK (takeSucc hxl)
      have HKK := hidK hkk
      have HW : Hid (∀ y, 0 ≤ y → y ≤ 31 → Calls Tryd.prog 14 #[.agg #[.int .i64 (kk : Int), .string nn, uu], .int .i64 y] wr fun e w' => ∃ t, e = .returned (.string (byB t)) ∧ Wr kk ⟨(kk : Int), nn, ns⟩ t ∧ Below wr.heap.size wr w') := fun y h0 h1 => written_c kk hkk.lt nn ns uu y h0 h1 wr (HLT.out.up (bel3K HB1.out HB.out)) hNm hsz.1 hsz.2
      injection e1 with e1 e1b e1c
      subst e1
      obtain ⟨m, hm'⟩ : ∃ m, m = ns.length := ⟨_, rfl⟩
      rw [← hm'] at hu
      subst hu
      have q0 : ¬ ((kk : Int) < 0) := by omega
      have q1 : ¬ ((13 : Int) < (kk : Int)) := by have := hkk.lt; omega
      obtain ⟨a15, ha15, he15⟩ := and_le (k : Int) 15 (by decide)
      have he15' : bits .and .i64 (k : Int) 15 = (a15 : Int) := he15
      obtain ⟨sh, hsh⟩ : ∃ sh : Int, x / 2 ^ a15 = sh := ⟨_, rfl⟩
      obtain ⟨a31, ha31, he31⟩ := and_le sh 31 (by decide)
      have he31' : bits .and .i64 sh 31 = (a31 : Int) := he31
      have hW2 := HW.out (a31 : Int) (by omega) (by omega)
      have HW2 := hidK hW2
      have hcv : IntKind.u64.wrap (a15 : Int) = (a15 : Int) := by rw [IntKind.wrap_u64]; omega
      have sh0 : (0 : Int) ≤ (a15 : Int) := by omega
      have sh1 : (a15 : Int) ≤ 64 := by omega
      obtain ⟨ts, hts⟩ : ∃ ts, (byB t).size = ts := ⟨_, rfl⟩
      have hts2 : ts ≤ 12582923 := by rw [← hts, byB_size]; exact htl2
      clear hx hkl hxl hm hsz hNm e1b e1c hm' he15 he31 ha31 hkk HW hW2 htl2
      go_upto_region 9 with (go_at_call 14; refine HW2.out.mono ?_; rintro e w3 ⟨t3, rfl, hw3, b3⟩; have HW3 := hidK hw3; have HB3 := hidK b3; clear hw3 b3 d0 d1 d2)
      have h3s := wr_clean HW3.out HKK.out
      have hmm : szM ⟨(kk : Int), nn, ns⟩ ≤ totR L := by
        have := totR_take L (k + 1)
        rw [HTK.out] at this
        have e : ∀ a b : List Mr, totR (a ++ b) = totR a + totR b := by intro a b; simp [totR]
        rw [e, totR_cons] at this
        omega
      have HTS : Hid ((t ++ t3).length ≤ 11 + 12 * totR (L.take (k + 1))) := by
        show _ ≤ _
        have e : ∀ a b : List Mr, totR (a ++ b) = totR a + totR b := by intro a b; simp [totR]
        rw [HTK.out, e, totR_cons, List.length_append]
        have := HTT.out
        have e0 : totR [] = 0 := rfl
        omega
      obtain ⟨t3s, ht3s⟩ : ∃ ts, (byB t3).size = ts := ⟨_, rfl⟩
      have ht3l : t3s ≤ 12582912 := by rw [← ht3s, byB_size]; have := HTL.out; omega
      have hz1 : ¬ 9223372036854775807 < ts + t3s := by omega
      clear h3s hmm
      go_wp2
      go_roundw
      case rel => exact ⟨k + 1, t ++ t3, by go_num, by omega, by rw [byB_app], by rw [HTK.out]; exact rd_step HR.out HKK.out HW3.out, HTS.out, HB.out.trans (HB3.out.mono HB.out.size)⟩
      case measure => simp [intOf]; omega
    · obtain rfl : k = n := by omega
      have hfull : L.take k = L := List.take_of_length_le (by rw [HNN.out]; exact Nat.le_refl _)
      have hd : decT (byL (byB t)) = (L, 0, 0) := by
        rw [byL_byB]
        have := rd_end HR.out
        rw [hfull] at this
        exact this
      have H3 : Hid (Calls Tryd.prog 13 #[.string (byB t)] wr fun e w' => ∃ v Q, e = .returned (.tuple #[v, .int .i64 0, .int .i64 0]) ∧ RowR w' v Q ∧ Q.map (·.1) = L ∧ Below wr.heap.size wr w') := by
        refine (decode_c (byB t) wr (HVT.out.up (bel3K HB1.out HB.out)) (by rw [byB_size]; omega)).mono ?_
        rintro e w' ⟨v2, P2, n2, k2, rfl, o2, d2, b2⟩
        rw [hd] at d2
        injection d2 with d2 d3
        injection d3 with d3 d4
        subst d3; subst d4
        exact ⟨v2, P2, rfl, o2.toRow, d2.symm, b2⟩
      clear hfull hd htl2
      go_upto_region 11 with (go_at_call 13; refine H3.out.mono ?_; rintro e w3 ⟨v3, P3, rfl, o3, e3, b3⟩; have HO3 := hidK o3; have HE3 := hidK e3; have HB3 := hidK b3; clear o3 e3 b3)
      have HO4 := hidK ((HO1.out.on HB.out).on HB3.out)
      go_wp2_with (go_at_call 11; refine (H4.out _ _ P3 P1 _ HO3.out HO4.out HE3.out HE1.out).mono ?_; rintro e w4 ⟨rfl, b4⟩; have HB4 := hidK b4; clear b4)
      go_ret
      exact ⟨by simp, bel3K (bel3K (bel3K HB1.out HB.out) HB3.out) HB4.out⟩
end Go.Proofs.YtdamhdceajmdfaaDoor
