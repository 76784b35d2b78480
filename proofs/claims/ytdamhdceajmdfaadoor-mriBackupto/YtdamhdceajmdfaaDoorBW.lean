
-- MriBack's walk.
import Derived.Test.YtdamhdceajmdfaaDoorCY
import Derived.Test.YtdamhdceajmdfaaDoorDK
import Derived.Test.YtdamhdceajmdfaaDoorT2
import Derived.Test.YtdamhdceajmdfaaDoorT6
namespace Go.Proofs.YtdamhdceajmdfaaDoor
open Go.ChangeShapes Go.WideShapes Go.ChangeAt Go.RowKit Go.MapKept
set_option linter.unusedVariables false
set_option maxRecDepth 100000
set_option linter.unusedSimpArgs false
def bad1 : ByteArray := ⟨#[100, 101, 108, 101, 116, 101, 32, 59, 32, 120, 10]⟩
def bad2 : ByteArray := ⟨#[100, 101, 108, 101, 116, 101, 101, 32, 120, 10]⟩
def wantE (bad : Bool) : Int := if bad then 190 else 192
def lineE (bad : Bool) : ByteArray := if bad then bad2 else bad1
theorem bad_dec (L : List Mr) (h : ∀ c ∈ L, cleanM c = true) (bad : Bool) (bh : ByteArray) : decT (byL (byB (textM L) ++ lineE bad ++ bh)) = ([], L.length + 1, wantE bad) := by
  rw [byL_app, byL_app, byL_byB]
  cases bad
  · have e : byL (lineE false) = [100, 101, 108, 101, 116, 101, 32, 59, 32, 120] ++ [10] := rfl
    rw [e]
    have := bad_plain L h [100, 101, 108, 101, 116, 101, 32, 59, 32, 120] (by decide) [byB [100, 101, 108, 101, 116, 101]] 192 (by rfl) (by simp) (by rfl) (by rfl) (byL bh)
    have e2 : textM L ++ ([100, 101, 108, 101, 116, 101, 32, 59, 32, 120] ++ [10]) ++ byL bh = textM L ++ ([100, 101, 108, 101, 116, 101, 32, 59, 32, 120] ++ 10 :: byL bh) := by simp
    rw [e2, this]; rfl
  · have e : byL (lineE true) = [100, 101, 108, 101, 116, 101, 101, 32, 120] ++ [10] := rfl
    rw [e]
    have := bad_plain L h [100, 101, 108, 101, 116, 101, 101, 32, 120] (by decide) [byB [100, 101, 108, 101, 116, 101, 101], byB [120]] 190 (by rfl) (by simp) (by rfl) (by rfl) (byL bh)
    have e2 : textM L ++ ([100, 101, 108, 101, 116, 101, 101, 32, 120] ++ [10]) ++ byL bh = textM L ++ ([100, 101, 108, 101, 116, 101, 101, 32, 120] ++ 10 :: byL bh) := by simp
    rw [e2, this]; rfl
theorem totR_filter (L : List Mr) : totR (L.filter cleanM) ≤ totR L := by
  induction L with
  | nil => simp
  | cons c r ih =>
    rw [List.filter_cons]
    split
    · rw [totR_cons, totR_cons]; omega
    · rw [totR_cons]; omega
set_option maxHeartbeats 16000000 in
theorem mriBack_w (v : Value) (P : List (Mr × Value)) (bad : Bool) (bh : ByteArray) (w : World) (hV : VT w) (h : RowR w v P) (ht : totR (P.map (·.1)) ≤ 1048576) (hb : bh.size ≤ 1048576) :
    Calls Tryd.prog 4 #[v, .bool bad, .string bh] w fun e w' => e = .returned (.bool true) ∧ Below w.heap.size w w' := by
  have HVT := hidK hV
  obtain ⟨L, hL⟩ : ∃ L, L = (P.map (·.1)).filter cleanM := ⟨_, rfl⟩
  have hcl : ∀ c ∈ L, cleanM c = true := fun c hc => by rw [hL] at hc; exact (List.mem_filter.1 hc).2
  have htl : totR L ≤ 1048576 := by rw [hL]; exact Nat.le_trans (totR_filter _) ht
  have hts := textM_size L
  obtain ⟨X, hX⟩ : ∃ X, X = byB (textM L) := ⟨_, rfl⟩
  have hXs : X.size ≤ 14680064 := by rw [hX, byB_size]; omega
  have hn := totR_len L
  have H1 : Hid (Calls Tryd.prog 12 #[v] w fun e w' => ∃ v' P', e = .returned v' ∧ RowR w' v' P' ∧ P'.map (·.1) = L ∧ (∀ p ∈ P', p ∈ P) ∧ Below w.heap.size w w') := by
    rw [hL]; exact cleaned_c v P w h (by omega)
  have H2 : Hid (∀ u Q wx, Below w.heap.size w wx → RowR wx u Q → Q.map (·.1) = L → Calls Tryd.prog 9 #[u] wx fun e w' => e = .returned (.string X) ∧ Below wx.heap.size wx w') := fun u Q wx hb hr he => by
    have := text_c u Q wx (HVT.out.up hb) hr (by rw [he]; omega)
    rw [he, ← hX] at this
    exact this
  have H3 : Hid (∀ wx, Below w.heap.size w wx → Calls Tryd.prog 13 #[.string X] wx fun e w' => ∃ v Q, e = .returned (.tuple #[v, .int .i64 0, .int .i64 0]) ∧ RowR w' v Q ∧ Q.map (·.1) = L ∧ Below wx.heap.size wx w') := fun wx hb => by
    refine (decode_c X wx (HVT.out.up hb) (by omega)).mono ?_
    rintro e w' ⟨v2, P2, n2, k2, rfl, o2, d2, b2⟩
    rw [hX, byL_byB, back_plain L hcl] at d2
    injection d2 with d2 d3
    injection d3 with d3 d4
    subst d3; subst d4
    exact ⟨v2, P2, rfl, o2.toRow, d2.symm, b2⟩
  have H4 : Hid (∀ u1 u2 Q1 Q2 wx, RowR wx u1 Q1 → RowR wx u2 Q2 → Q1.map (·.1) = L → Q2.map (·.1) = L → Calls Tryd.prog 11 #[u1, u2] wx fun e w' => e = .returned (.bool true) ∧ Below wx.heap.size wx w') := fun u1 u2 Q1 Q2 wx h1 h2 e1 e2 => sameList_c u1 u2 Q1 Q2 wx h1 h2 (by rw [e1, e2]) (by rw [e1]; omega)
  obtain ⟨ll, hll⟩ : ∃ ll, ll = L.length := ⟨_, rfl⟩
  have hls : (lineE bad).size ≤ 11 := by cases bad <;> decide
  have H5 : Hid (∀ wx, Below w.heap.size w wx → Calls Tryd.prog 13 #[.string (X ++ lineE bad ++ bh)] wx fun e w' => ∃ ao cap, e = .returned (.tuple #[.slice ao 0 cap, .int .i64 ((ll : Int) + 1), .int .i64 (wantE bad)]) ∧ Below wx.heap.size wx w') := fun wx hb' => by
    refine (decode_c (X ++ lineE bad ++ bh) wx (HVT.out.up hb') (by rw [ByteArray.size_append, ByteArray.size_append]; omega)).mono ?_
    rintro e w' ⟨v2, P2, n2, k2, rfl, o2, d2, b2⟩
    rw [hX, bad_dec L hcl bad bh] at d2
    injection d2 with d2 d3
    injection d3 with d3 d4
    subst d3; subst d4
    have hp : P2 = [] := by
      cases P2 with
      | nil => rfl
      | cons a t => simp at d2
    subst hp
    obtain ⟨ao, cap, hv2, _⟩ := o2.toRow.row.form
    refine ⟨ao, cap, ?_, b2⟩
    rw [hv2, ← hll]
    rfl
  have hl1 : ll ≤ 1048576 := by omega
  have lw : IntKind.i64.wrap ((ll : Int) + 1) = (ll : Int) + 1 := by rw [IntKind.wrap_i64]; omega
  have HLL := hidK hll
  have hx1 : ¬ 9223372036854775794 < X.size := by omega
  have hx2 : bh.size ≤ 9223372036854775807 := by omega
  obtain ⟨xs, hxs⟩ : ∃ xs, xs = X.size := ⟨_, rfl⟩
  obtain ⟨bs, hbs⟩ : ∃ bs, bs = bh.size := ⟨_, rfl⟩
  have hxs2 : X.size = xs := hxs.symm
  have hbs2 : bh.size = bs := hbs.symm
  have HXS : Hid (xs ≤ 14680064 ∧ bs ≤ 1048576) := ⟨by omega, by omega⟩
  clear hV h ht hb hL hcl htl hts hX hn hll hls hXs hx1 hx2 hxs hbs
  go_enter Tryd.func4, Tryd.ntmps4
  go_upto_region 2 with (go_at_call 12; refine H1.out.mono ?_; rintro e w1 ⟨v1, P1, rfl, o1, e1, m1, b1⟩; have HO1 := hidK o1; have HE1 := hidK e1; have HB1 := hidK b1; clear o1 e1 m1 b1)
  clear H1
  go_upto_region 3 with (go_at_call 9; refine (H2.out _ P1 _ HB1.out HO1.out HE1.out).mono ?_; rintro e w2 ⟨rfl, b2⟩; have HB2 := hidK (bel3K HB1.out b2); have HO2 := hidK (HO1.out.on b2); clear b2)
  clear H2
  go_upto_region 4 with (go_at_call 13; refine (H3.out _ HB2.out).mono ?_; rintro e w3 ⟨v3, P3, rfl, o3, e3, b3⟩; have HB3 := hidK (bel3K HB2.out b3); have HO3 := hidK (HO2.out.on b3); have HP3 := hidK o3; have HE3 := hidK e3; clear b3 o3 e3)
  clear H3
  go_upto_region 5 with (go_at_call 11; refine (H4.out _ _ P3 P1 _ HP3.out HO3.out HE3.out HE1.out).mono ?_; rintro e w4 ⟨rfl, b4⟩; have HB4 := hidK (bel3K HB3.out b4); have HO4 := hidK (HO3.out.on b4); clear b4)
  clear H4
  obtain ⟨va, vc, hv1, _⟩ := HO4.out.row.form
  have hl2 : P1.length = ll := by have := congrArg List.length HE1.out; rw [List.length_map] at this; rw [this, ← HLL.out]
  rw [hl2] at hv1
  subst hv1
  clear hl2
  cases bad
  · have HS : Hid (X ++ lineE false ++ bh = X ++ ⟨#[100, 101, 108, 101, 116, 101, 32, 59, 32, 120, 10]⟩ ++ bh) := rfl
    rw [HS.out] at H5
    have h5 := H5.out _ HB4.out
    have e5 : wantE false = 192 := rfl
    rw [e5] at h5
    have H6 := hidK h5
    have hz : (X ++ ⟨#[100, 101, 108, 101, 116, 101, 32, 59, 32, 120, 10]⟩ : ByteArray).size = xs + 11 := by rw [ByteArray.size_append, hxs2]; rfl
    have hz1 : ¬ 9223372036854775807 < xs + 11 := by have := HXS.out; omega
    have hz2 : ¬ 9223372036854775807 < xs + 11 + bs := by have := HXS.out; omega
    clear h5 e5 H5 HS
    go_wp2_with (go_at_call 13; refine H6.out.mono ?_; rintro e w5 ⟨da, dc, rfl, b5⟩; have HB5 := hidK (bel3K HB4.out b5); clear b5)
    go_ret
    exact ⟨by simp, HB5.out⟩
  · have HS : Hid (X ++ lineE true ++ bh = X ++ ⟨#[100, 101, 108, 101, 116, 101, 101, 32, 120, 10]⟩ ++ bh) := rfl
    rw [HS.out] at H5
    have h5 := H5.out _ HB4.out
    have e5 : wantE true = 190 := rfl
    rw [e5] at h5
    have H6 := hidK h5
    have hz : (X ++ ⟨#[100, 101, 108, 101, 116, 101, 101, 32, 120, 10]⟩ : ByteArray).size = xs + 10 := by rw [ByteArray.size_append, hxs2]; rfl
    have hz1 : ¬ 9223372036854775807 < xs + 10 := by have := HXS.out; omega
    have hz2 : ¬ 9223372036854775807 < xs + 10 + bs := by have := HXS.out; omega
    clear h5 e5 H5 HS
    go_wp2_with (go_at_call 13; refine H6.out.mono ?_; rintro e w5 ⟨da, dc, rfl, b5⟩; have HB5 := hidK (bel3K HB4.out b5); clear b5)
    go_ret
    exact ⟨by simp, HB5.out⟩
end Go.Proofs.YtdamhdceajmdfaaDoor
