
-- MriText's walk.
import Derived.Test.YtmfefpkkodgcfaaDoorT2
import Derived.Test.YtmfefpkkodgcfaaDoorT4
import Derived.Test.YtmfefpkkodgcfaaDoorT5
namespace Go.Proofs.YtmfefpkkodgcfaaDoor
open Go.ChangeShapes Go.WideShapes Go.ChangeAt Go.RowKit Go.MapKept
set_option linter.unusedVariables false
set_option maxRecDepth 100000
set_option linter.unusedSimpArgs false
/-- commands in rows of one's own, whichever -/
structure OwnQ (B : Nat) (w : World) (v : Value) (P : List (Mr × Value)) : Prop where
  row : w.ownsRow B 28 3 v P.length (P.flatMap mrL)
  names : ∀ p ∈ P, OwnT B w p.2 p.1.ns
theorem OwnR.q {B : Nat} {w : World} {v : Value} {P : List (Mr × Value)} (h : OwnR B w v P) : OwnQ B w v P := ⟨h.row, h.names⟩
theorem OwnQ.toRow {B : Nat} {w : World} {v : Value} {P : List (Mr × Value)} (h : OwnQ B w v P) : RowR w v P := ⟨rowG_own (by decide) mrL_len h.row, fun p hp => (h.names p hp).row⟩
theorem OwnQ.on {B : Nat} {w w' : World} {v : Value} {P : List (Mr × Value)} (h : OwnQ B w v P) (hb : Below w.heap.size w w') : OwnQ B w' v P := ⟨ownG_on h.row hb, fun p hp => (h.names p hp).on hb⟩
def cZ : Mr := ⟨3, ⟨#[]⟩, [⟨#[122, 122]⟩]⟩
theorem own_zz (w : World) : OwnT w.heap.size (w.alloc (.cells #[.string ⟨#[122, 122]⟩] 9)) (.slice (some ⟨w.heap.size, 0, none⟩) 1 1) [⟨#[122, 122]⟩] :=
  ⟨rfl, .inr ⟨w.heap.size, 1, _, rfl, Nat.le_refl _, heap_alloc_new w _, by decide, by decide, rfl, rfl⟩⟩
/-- an element is put -/
theorem OwnQ.put {B : Nat} {w W : World} {g n cap k : Nat} {P : List (Mr × Value)} {cur : Array Value} (hn : P.length = n) (h : OwnQ B w (.slice (some ⟨g, 0, none⟩) n cap) P) (hcur : w.heap[g]? = some (.cells cur 28 (0, 0))) (hB : B ≤ w.heap.size) (hk : k < n)
    (hW : W.heap[g]? = some (.cells (putG cur (k * 3) #[.int .i64 3, .string ⟨#[]⟩, .slice (some ⟨w.heap.size, 0, none⟩) 1 1]) 28 (0, 0))) (hg : (w.alloc (.cells #[.string ⟨#[122, 122]⟩] 9)).grownBy W (some g)) : OwnQ B W (.slice (some ⟨g, 0, none⟩) n cap) (P.set k (cZ, .slice (some ⟨w.heap.size, 0, none⟩) 1 1)) := by
  subst hn
  obtain ⟨cur', h1, h2, h3, h4, h5, h6, h7⟩ := ownG_cur mrL 3 (by decide) mrL_len h.row
  rw [hcur] at h1
  injection h1 with h1
  injection h1 with h1 _ _
  subst h1
  refine ⟨?_, fun p hp => ?_⟩
  · rw [List.length_set]
    exact ownG_put mrL 3 mrL_len (cZ, .slice (some ⟨w.heap.size, 0, none⟩) 1 1) hk h2 h3 h4 h5 h6 h7 hW
  · have key : ∀ {u : Value} {l : List ByteArray}, OwnT B (w.alloc (.cells #[.string ⟨#[122, 122]⟩] 9)) u l → OwnT B W u l := fun {u} {l} hq => by
      refine (hq.f.keep fun q hqq => hg.block q (hq.f.lt q hqq) fun e => ?_).t
      injection e with e
      subst e
      exact ne_ty hq.f (hupK hcur _) (by decide) hqq
    rcases List.mem_or_eq_of_mem_set hp with hp | rfl
    · exact key ((h.names p hp).on (bupK (Below.refl _ _) _))
    · exact key ((own_zz w).le hB)
def TxRel (w : World) (n : Nat) (v i : Value) (wx : World) : Prop := ∃ (k : Nat) (P : List (Mr × Value)), i = .int .i64 k ∧ k ≤ n ∧ P.length = n ∧ OwnQ w.heap.size wx v P ∧ (∀ j p, j < k → P[j]? = some p → p.1 = cZ) ∧ Below w.heap.size w wx
theorem all_cZ {P : List (Mr × Value)} {n : Nat} (hl : P.length = n) (h : ∀ (j : Nat) p, j < n → P[j]? = some p → p.1 = cZ) : P.map (·.1) = List.replicate n cZ := by
  apply List.ext_getElem?
  intro j
  rw [List.getElem?_map, List.getElem?_replicate]
  by_cases hj : j < n
  · rw [if_pos hj, List.getElem?_eq_getElem (by omega)]
    simp only [Option.map_some]
    rw [h j _ hj (List.getElem?_eq_getElem (by omega))]
  · rw [if_neg hj, List.getElem?_eq_none (by omega)]; rfl
theorem tot_cZ (n : Nat) : totR (List.replicate n cZ) = n * 4 := by
  induction n with
  | zero => rfl
  | succ n ih => rw [List.replicate_succ, totR_cons, ih, Nat.add_mul]; have : szM cZ = 4 := rfl; omega
set_option maxHeartbeats 16000000 in
theorem mriText_w (v : Value) (P : List (Mr × Value)) (w : World) (hV : VT w) (hW : WT w) (h : RowR w v P) (ht : totR (P.map (·.1)) ≤ 1048576) :
    Calls Tryd.prog 3 #[v] w fun e w' => e = .returned (.bool true) ∧ Below w.heap.size w w' := by
  have HR := hidK h
  have HVT := hidK hV
  have HWT := hidK hW
  have HT := hidK ht
  have ht2 : totR (P.map (·.1)) ≤ 16777216 := by omega
  have HT2 := hidK ht2
  obtain ⟨X, hX⟩ : ∃ X, X = byB (textM (P.map (·.1))) := ⟨_, rfl⟩
  have HX := hidK hX
  have H1 : Hid (∀ wx, Below w.heap.size w wx → Calls Tryd.prog 8 #[v] wx fun e w' => ∃ v' P', e = .returned v' ∧ OwnR wx.heap.size w' v' P' ∧ P'.map (·.1) = P.map (·.1) ∧ Below wx.heap.size wx w') := fun wx hb => twin_c v P wx (HR.out.on hb) ht2
  have H2 : Hid (∀ u Q wx, Below w.heap.size w wx → RowR wx u Q → Q.map (·.1) = P.map (·.1) → Calls Tryd.prog 9 #[u] wx fun e w' => e = .returned (.string X) ∧ Below wx.heap.size wx w') := fun u Q wx hb hr he => by
    have := text_c u Q wx (HVT.out.up hb) hr (by rw [he]; exact ht2)
    rw [he, ← hX] at this
    exact this
  have H3 : Hid (∀ u Q wx, Below w.heap.size w wx → RowR wx u Q → Q.map (·.1) = P.map (·.1) → Calls Tryd.prog 10 #[u] wx fun e w' => e = .returned (.string X) ∧ Below wx.heap.size wx w') := fun u Q wx hb hr he => by
    have := rtext_c u Q wx (HWT.out.up hb) hr (by rw [he]; exact ht2)
    rw [he, ← hX] at this
    exact this
  have H4 : Hid (∀ u Q wx, Below w.heap.size w wx → RowR wx u Q → Q.map (·.1) = P.map (·.1) → Calls Tryd.prog 11 #[v, u] wx fun e w' => e = .returned (.bool true) ∧ Below wx.heap.size wx w') := fun u Q wx hb hr he => sameList_c v u P Q wx (HR.out.on hb) hr he.symm ht2
  have hPn : P.length ≤ 1048576 := by have := totR_len (P.map (·.1)); rw [List.length_map] at this; omega
  have HPN := hidK hPn
  clear hX h hV hW ht ht2 hPn
  go_enter Tryd.func3, Tryd.ntmps3
  go_upto_region 2 with (go_at_call 8; refine (H1.out _ (Below.refl _ _)).mono ?_; rintro e w1 ⟨v1, P1, rfl, o1, e1, b1⟩)
  go_upto_region 3 with (go_at_call 9; refine (H2.out _ P _ b1 (HR.out.on b1) rfl).mono ?_; rintro e w2 ⟨rfl, b2⟩; have b02 := bel3K b1 b2; have o2 := o1.on b2; clear o1)
  go_upto_region 4 with (go_at_call 10; refine (H3.out _ P1 _ b02 o2.toRow e1).mono ?_; rintro e w3 ⟨rfl, b3⟩; have b03 := bel3K b02 b3; have o3 := o2.on b3; clear o2)
  go_upto_region 5 with (go_at_call 11; refine (H4.out _ P1 _ b03 o3.toRow e1).mono ?_; rintro e w4 ⟨rfl, b4⟩; have b04 := bel3K b03 b4; clear o3)
  go_upto_region 8 with (go_at_call 8; refine (H1.out _ b04).mono ?_; rintro e w5 ⟨v5, P5, rfl, o5, e5, b5⟩)
  have b05 := bel3K b04 b5
  go_upto_region 9 with (go_at_call 9; refine (H2.out _ P5 _ b05 o5.toRow e5).mono ?_; rintro e w6 ⟨rfl, b6⟩; have b06 := bel3K b05 b6; have o6 := o5.on b6; clear o5)
  have hl5 : P5.length = P.length := by have := congrArg List.length e5; simpa using this
  obtain ⟨n, hn⟩ : ∃ n, n = P.length := ⟨_, rfl⟩
  have HN := hidK hn
  rw [← hn] at hl5
  have q6 := (o6.le b04.size).q
  obtain ⟨ao, cap, hv5, hnc, hcm, hnil, hsome⟩ := ownG_form 3 q6.row
  rw [hl5] at hv5 hnc hnil
  have HB6 := hidK b06
  have HQ6 := hidK q6
  have HL5 := hidK hl5
  have hn8 : n ≤ 1048576 := by rw [hn]; exact HPN.out
  have HSO := hidK hsome
  have HNI := hidK hnil
  subst hv5
  clear b1 b02 b03 b04 b05 b06 b2 b3 b4 b5 b6 o6 e1 e5 H1 H2 H3 H4 hl5 hn q6 hsome hnil
  go_wp2
  go_loopw [8] (fun i wx => TxRel w n (.slice ao n cap) i wx) (fun i _ => n - (intOf i).toNat)
  case atStart => exact ⟨0, P5, rfl, Nat.zero_le _, HL5.out, HQ6.out, (fun j p hj => by omega), HB6.out⟩
  case round =>
    obtain ⟨k, Q, rfl, hkn, hQl, hQ, hQz, hB⟩ := hrel
    have hBs := hB.size
    by_cases hk : k < n
    · have kI : (k : Int) < (n : Int) := by omega
      have k0 : (0 : Int) ≤ (k : Int) := by omega
      cases ao with
      | none => exact absurd (HNI.out rfl).1 (by omega)
      | some a =>
        obtain ⟨g, rfl, hgB, _⟩ := HSO.out a rfl
        have hrow : wr.ownsRow w.heap.size 28 3 (.slice (some ⟨g, 0, none⟩) n cap) n (Q.flatMap mrL) := by have := hQ.row; rw [hQl] at this; exact this
        obtain ⟨cur, h1, h2, h3, h4, h5, h6, h7⟩ := ownG_cur mrL 3 (by decide) mrL_len hrow
        have hfit : Nat.ble (k * 3 + 3) cur.size = true := Nat.ble_eq_true_of_le (by omega)
        have h1' := hupK h1 (.cells #[.string ⟨#[122, 122]⟩] 9)
        have HQ := hidK hQ
        have HQL := hidK hQl
        have HQZ := hidK hQz
        have HB := hidK hB
        have H1C := hidK h1
        clear hQ hQl hQz hB hrow h1 h2 h3 h4 h5 h6 h7 HSO HNI
        go_wp2_with (refine wpList_store_row_G rfl rfl _ _ _ rfl g (k * 3) (.agg #[.int .i64 3, .string ⟨#[]⟩, .slice (some ⟨wr.heap.size, 0, none⟩) 1 1]) (by simp [Act.eval]) rfl _ cur _ h1' (by kernel_rfl) hfit rfl rfl ?_; intro W9 S9 g9)
        have HQ9 := hidK (HQ.out.put HQL.out H1C.out hBs hk S9 g9)
        have HB9 : Hid (Below w.heap.size w W9) := (HB.out.trans ((Below.refl _ _).alloc hBs _)).trans ((Below.refl _ _).grown g9 (by simp; omega) (fun q hq => by injection hq with hq; omega))
        clear S9 g9
        go_wp2
        go_roundw
        case rel =>
          refine ⟨k + 1, _, by go_num, by omega, ?_, HQ9.out, ?_, HB9.out⟩
          · rw [List.length_set]; exact HQL.out
          · intro j p hj hp
            rw [List.getElem?_set] at hp
            split at hp
            · split at hp
              · injection hp with hp; rw [← hp]
              · cases hp
            · exact HQZ.out j p (by omega) hp
        case measure => simp [intOf]; omega
    · obtain rfl : k = n := by omega
      have hE := all_cZ hQl hQz
      have hR := hQ.toRow
      have htz : totR (Q.map (·.1)) ≤ 16777216 := by rw [hE, tot_cZ]; omega
      obtain ⟨Y, hY⟩ : ∃ Y, Y = byB (textM (Q.map (·.1))) := ⟨_, rfl⟩
      have HA : Hid (Calls Tryd.prog 9 #[.slice ao k cap] wr fun e w' => e = .returned (.string Y) ∧ Below wr.heap.size wr w') := by
        rw [hY]; exact text_c _ Q wr (HVT.out.up hB) hR htz
      have HBt : Hid (∀ wx, Below wr.heap.size wr wx → Calls Tryd.prog 8 #[.slice ao k cap] wx fun e w' => ∃ v' P', e = .returned v' ∧ OwnR wx.heap.size w' v' P' ∧ P'.map (·.1) = Q.map (·.1) ∧ Below wx.heap.size wx w') := fun wx hb => twin_c _ Q wx (hR.on hb) htz
      have HC : Hid (∀ u R wx, Below wr.heap.size wr wx → RowR wx u R → R.map (·.1) = Q.map (·.1) → Calls Tryd.prog 10 #[u] wx fun e w' => e = .returned (.string Y) ∧ Below wx.heap.size wx w') := fun u R wx hb hr he => by
        have := rtext_c u R wx (HWT.out.up (bel3K hB hb)) hr (by rw [he]; exact htz)
        rw [he, ← hY] at this
        exact this
      have HB := hidK hB
      clear hQ hQl hQz hE hR htz hY hB HSO HNI
      go_upto_region 14 with (go_at_call 9; refine HA.out.mono ?_; rintro e w2 ⟨rfl, b2⟩)
      go_wp2_with (first
        | (go_at_call 8; refine (HBt.out _ b2).mono ?_; rintro e w3 ⟨v3, P3, rfl, o3, e3, b3⟩; have b03 := bel3K b2 b3)
        | (go_at_call 10; refine (HC.out _ P3 _ b03 o3.toRow e3).mono ?_; rintro e w4 ⟨rfl, b4⟩))
      go_ret
      exact ⟨by simp, bel3K HB.out (bel3K b03 b4)⟩
end Go.Proofs.YtmfefpkkodgcfaaDoor
