
-- twin: a copy, its lists too.
import Derived.Test.YtdamhdceajmdfaaDoorAQ
import Derived.Test.YtdamhdceajmdfaaDoorT6
import Derived.Shelf.Abstract
namespace Go.Proofs.YtdamhdceajmdfaaDoor
open Go.ChangeShapes Go.WideShapes Go.ChangeAt Go.RowKit Go.MapKept
set_option linter.unusedVariables false
set_option maxRecDepth 100000
set_option linter.unusedSimpArgs false
theorem OwnT.f {B : Nat} {w : World} {v : Value} {L : List ByteArray} (h : OwnT B w v L) : OwnF (fun b => B ≤ b) txL 1 9 w v L := OwnF.of h
theorem OwnF.t {B : Nat} {w : World} {v : Value} {L : List ByteArray} (h : OwnF (fun b => B ≤ b) txL 1 9 w v L) : OwnT B w v L := h.own
theorem ne_ty {F : Nat → Prop} {w : World} {v : Value} {L : List ByteArray} {q t : Nat} {cs : Array Value} (h : OwnF F txL 1 9 w v L) (hq : w.heap[q]? = some (.cells cs t (0, 0))) (ht : t ≠ 9) : v.ownBlock ≠ some q := by
  intro e
  obtain ⟨cur, hc⟩ := h.typed e
  rw [hq] at hc
  injection hc with hc
  injection hc with _ hc _
  exact ht hc
theorem own_lo {B : Nat} {w : World} {v : Value} {L : List ByteArray} (h : OwnT B w v L) : ∀ g, v.ownBlock = some g → B ≤ g := fun g hg => (OwnF.of h).2 g hg
def TwIn (wo : World) (vv : Int) (nn : ByteArray) (ns : List ByteArray) (m : Nat) (i : Value) (wx : World) : Prop := ∃ (j : Nat) (u : Value), i = .int .i64 j ∧ j ≤ m ∧ wx.heap[wo.heap.size]? = some (.cells #[.int .i64 vv, .string nn, u] 28 (0, 0)) ∧ OwnT wo.heap.size wx u (ns.take j) ∧ Below wo.heap.size wo wx
def TwOut (w : World) (L : List Mr) (n : Nat) (s i : Value) (wx : World) : Prop := ∃ (k : Nat) (P' : List (Mr × Value)), i = .int .i64 k ∧ k ≤ n ∧ OwnR w.heap.size wx s P' ∧ P'.map (·.1) = L.take k ∧ Below w.heap.size w wx
set_option maxHeartbeats 16000000 in
theorem twin_c (v : Value) (P : List (Mr × Value)) (w : World) (h : RowR w v P) (ht : totR (P.map (·.1)) ≤ 16777216) :
    Calls Tryd.prog 8 #[v] w fun e w' => ∃ v' P', e = .returned v' ∧ OwnR w.heap.size w' v' P' ∧ P'.map (·.1) = P.map (·.1) ∧ Below w.heap.size w w' := by
  obtain ⟨a1, c1, q1, _, _⟩ := h.row.form
  obtain ⟨n, hnn⟩ : ∃ n, n = P.length := ⟨_, rfl⟩
  subst q1
  have HV := hidK h
  have HN := hidK hnn
  obtain ⟨L, hL⟩ : ∃ L, L = P.map (·.1) := ⟨_, rfl⟩
  have HL := hidK hL
  have hlen := totR_len L
  have hLl : L.length = n := by rw [hL, List.length_map, hnn]
  rw [← hL] at ht ⊢
  have hl : n ≤ 16777216 := by omega
  have HTT := hidK ht
  rw [← hnn] at HV ⊢
  have HLl := hidK hLl
  clear h hnn hL hlen ht hLl
  go_enter Tryd.func8, Tryd.ntmps8
  go_wp2
  go_loopw [3, 4] (fun s i wx => TwOut w L n s i wx) (fun _ i _ => n - (intOf i).toNat)
  case atStart => exact ⟨0, [], rfl, Nat.zero_le _, ownR_nil _ _, rfl, Below.refl _ _⟩
  case round =>
    obtain ⟨wo, hwo⟩ : ∃ x, x = wr := ⟨_, rfl⟩
    subst hwo
    obtain ⟨k, P', rfl, hkn, hO, hPm, hB⟩ := hrel
    have hBs := hB.size
    have HO := hidK hO
    have HPM := hidK hPm
    have HB := hidK hB
    have hPl : P'.length = k := by have := congrArg List.length hPm; rw [List.length_map, List.length_take] at this; have := HLl.out; omega
    have HPL := hidK hPl
    obtain ⟨so, sc, hs3⟩ : ∃ ao cap, u3 = .slice ao P'.length cap := by
      obtain ⟨ao, cap, e, _⟩ := hO.toRow.row.form
      exact ⟨ao, cap, e⟩
    rw [hPl] at hs3
    have HS3 := hidK hs3
    clear hPl hPm hs3
    by_cases hk : k < n
    · have kI : (k : Int) < (n : Int) := by omega
      have k0 : (0 : Int) ≤ (k : Int) := by omega
      have hkl : k < P.length := by have := HN.out; omega
      obtain ⟨⟨⟨vv, nn, ns⟩, uu⟩, hx⟩ : ∃ x, P[k]? = some x := ⟨_, List.getElem?_eq_getElem hkl⟩
      obtain ⟨b1, o1, p1, e1, d0, d1, d2⟩ := (HV.out.on hB).at hx
      have hNm := (HV.out.on hB).names _ (List.mem_of_getElem? hx)
      have hxl : L[k]? = some ⟨vv, nn, ns⟩ := by rw [HL.out]; exact fst_at hx
      have hm := totR_mem hxl
      have hnl : ns.length ≤ 16777216 := by have := HTT.out; have := sumS_len ns; unfold szM at hm; simp only at hm; omega
      have HXL := hidK hxl
      simp only [] at d0 d1 d2 hNm
      obtain ⟨ao, cap, hu⟩ := hNm.slice
      have HNm := hidK hNm
      injection e1 with e1 e1b e1c
      subst e1
      obtain ⟨m, hm'⟩ : ∃ m, m = ns.length := ⟨_, rfl⟩
      have HM := hidK hm'
      rw [← hm'] at hu hnl
      subst hu
      have HD2 := hidK d2
      clear hx hkl e1b e1c hm hNm hxl hm' hO hB
      go_upto_region 7 with (first
        | (refine wpList_store_kz rfl rfl _ _ _ rfl wo.heap.size 0 (.agg #[.int .i64 vv, .string nn, .slice ao m cap]) rfl rfl _ _ #[.int .i64 vv, .string nn, .slice ao m cap] (heap_alloc_new _ _) (by kernel_rfl) rfl rfl rfl ?_; intro W4 S4 q4; have hb4 := q4.belowN (bupK (Below.refl _ wo) _) (Nat.le_refl _) (Nat.le_refl _); clear d0 d1 d2 q4)
        | (refine wpList_store_kz rfl rfl _ _ _ rfl wo.heap.size 2 (.slice none 0 0) rfl rfl _ _ #[.int .i64 vv, .string nn, .slice none 0 0] S4 (by kernel_rfl) rfl rfl rfl ?_; intro W5 S5 q5; have hb5 := q5.belowN hb4 (Nat.le_refl _) (Nat.le_refl _); clear S4 hb4 q5))
      have HS5 := hidK S5
      have HB5 := hidK hb5
      clear S5 hb5
      go_wp2
      go_loopw [6] (fun i wx => TwIn wo vv nn ns m i wx) (fun i _ => m - (intOf i).toNat)
      case atStart => exact ⟨0, _, rfl, Nat.zero_le _, HS5.out, ownT_nil _ _, HB5.out⟩
      case round =>
        obtain ⟨j, u, rfl, hjm, hbk, hT, hBj⟩ := hrel
        have hBjs := hBj.size
        have hTl : (ns.take j).length = j := by rw [List.length_take]; have := HM.out; omega
        obtain ⟨ua, uc, hu⟩ := hT.sl
        rw [hTl] at hu
        have d2 := cell_onG HD2.out hBj
        by_cases hj : j < m
        · have jI : (j : Int) < (m : Int) := by omega
          have j0 : (0 : Int) ≤ (j : Int) := by omega
          obtain ⟨x, hx⟩ : ∃ x, ns[j]? = some x := ⟨_, List.getElem?_eq_getElem (by have := HM.out; omega)⟩
          obtain ⟨b2, o2, p2, e2, e0⟩ := (HNm.out.on hBj).tx hx
          injection e2 with e2 e2b e2c
          subst e2
          obtain ⟨Pb, hPb⟩ : ∃ Pb, Pb = Obj.cells #[.string x] 9 := ⟨_, rfl⟩
          have hbC : Below wr.heap.size wr (wr.alloc Pb) := (Below.refl _ _).alloc (Nat.le_refl _) Pb
          have HO2 : Hid (OwnF (fun b => wo.heap.size ≤ b) txL 1 9 (wr.alloc Pb) u (ns.take j)) := (hT.on hbC).f
          have HR2 : Hid (RowG txL (wr.alloc Pb) (.slice (some ⟨wr.heap.size, 0, none⟩) 1 1) [x]) := by
            have := rowG_new elT wr x #[.string x] rfl
            rw [← hPb] at this
            exact this
          have hbk2 := hkeepK hbC hbk
          have HG2 : Hid (∀ w4, Kp (fun k => u.ownBlock = some k) (wr.alloc Pb) w4 → w4.heap[wo.heap.size]? = some (.cells #[.int .i64 vv, .string nn, u] 28 (0, 0))) := fun w4 k4 => (k4.block _ (Array.getElem?_eq_some_iff.1 hbk2).1 (fun e => ne_ty HO2.out hbk2 (by decide) e)).trans hbk2
          have HF2 : Hid (∀ b, (wr.alloc Pb).heap.size ≤ b → wo.heap.size ≤ b) := fun b hb => by simp at hb; omega
          have HBC := hidK hbC
          have HBJ := hidK hBj
          have HX := hidK (takeSucc hx)
          have HLN : Hid ((ns.take j).length = j) := hTl
          have g2 := cell_rowK hbk 2 _ rfl
          have g5 := cell_rowK hbk2 2 _ rfl
          have e0' := cell_onG e0 hbC
          have d2' := cell_onG d2 hbC
          subst hu
          clear hx e2b e2c hbC hT hBj hTl hbk hbk2
          subst hPb
          go_wp2
          go_region_law (refine stepG_all (F := fun b => wo.heap.size ≤ b) elT rfl (.tmp 29) (.tmp 38) rfl (.slice ua j uc) (ns.take j) x wr.heap.size 1 (by simp [Act.eval]) (by simp [Act.eval]) (by exact HO2.out) (by exact HR2.out) (txL_one _) (by have := HLN.out; omega) (by exact HF2.out) ?_; intro v4 w4 o4 k4 l4; obtain ⟨a4, p4, e4, _⟩ := o4.form; obtain ⟨m4, hm4⟩ : ∃ m, m = (ns.take j ++ [x]).length := ⟨_, rfl⟩; rw [← hm4] at e4; clear hm4; subst e4; have hb2 := HG2.out _ (Kp.undrew k4); have d3 : w4.cell? ⟨wo.heap.size, 2, none⟩ = some (.slice ua j uc) := cell_rowK hb2 2 _ rfl; have f3 := Lib.frozen_of_heap hb2 2)
          all_goals
            have HK7 : Hid (∀ W, W = w4.setCell ⟨wo.heap.size, 2, none⟩ (.slice a4 m4 p4) → W.heap[wo.heap.size]? = some (.cells #[.int .i64 vv, .string nn, .slice a4 m4 p4] 28 (0, 0)) ∧ OwnT wo.heap.size W (.slice a4 m4 p4) (ns.take (j + 1)) ∧ Below wo.heap.size wo W) := by
              rintro W rfl
              have k5 := Kp.undrew k4
              have q5 := kq_set w4 wo.heap.size 2 (.slice a4 m4 p4)
              have hn := ne_ty o4 hb2 (by decide)
              refine ⟨blk_set hb2 _, ?_, ?_⟩
              · rw [HX.out]
                exact (o4.keep fun g hg => q5.block g (fun e => hn (e ▸ hg)) (o4.lt g hg)).t
              · have hk : Below wo.heap.size (wr.alloc (.cells #[.string x] 9)) w4 := k5.below (fun g hg => HO2.out.2 g hg) (by simp; omega)
                exact q5.belowN ((HBJ.out.trans (HBC.out.mono hBjs)).trans hk) (Nat.le_refl _) (Nat.le_refl _)
            obtain ⟨X7, Y7, Z7⟩ := HK7.out _ rfl
            generalize w4.setCell ⟨wo.heap.size, 2, none⟩ (.slice a4 m4 p4) = W7 at X7 Y7 Z7 ⊢
            clear HK7 o4 k4 l4 hb2 d3 f3
            go_wp2
            go_roundw
            case rel => exact ⟨j + 1, _, by go_num, by omega, X7, Y7, Z7⟩
            case measure => simp [intOf]; omega
        · obtain rfl : j = m := by omega
          have hT2 : OwnT wo.heap.size wr u ns := by have := hT; rw [List.take_of_length_le (by rw [← HM.out]; exact Nat.le_refl _)] at this; exact this
          have g0 := cell_rowK hbk 0 _ rfl
          have g1 := cell_rowK hbk 1 _ rfl
          have g2 := cell_rowK hbk 2 _ rfl
          have HO5 := hidK (HO.out.on hBj)
          have HB6 := hidK (HB.out.trans (hBj.mono HB.out.size))
          have HT2 := hidK (hT2.le HB.out.size)
          have HLA : Hid (∀ p ∈ P', ∀ g h, p.2.ownBlock = some g → u.ownBlock = some h → g < h) := fun p hp g h hg hh => Nat.lt_of_lt_of_le (own_ltK ((HO.out.names p hp)) g hg) (own_lo hT2 h hh)
          have HXX := hidK (takeSucc HXL.out)
          subst hu
          obtain rfl := HS3.out
          clear hT hT2 hTl hbk hBj
          go_wp2_with (refine wpR_one rfl (.tmp 41) (.tmp 43) rfl w w.heap.size (.slice so k sc) P' ⟨vv, nn, ns⟩ (.slice ua j uc) rfl rfl HO5.out HT2.out HLA.out (by have := HPL.out; omega) (Nat.le_refl _) HB6.out ?_; intro v8 w8 o8 b8 g8)
          go_roundw
          case rel => exact ⟨k + 1, _, by go_num, by omega, o8, by rw [List.map_append, HPM.out, HXX.out]; rfl, b8⟩
          case measure => simp [intOf]; omega
    · obtain rfl : k = n := by omega
      obtain rfl := HS3.out
      go_wp2
      go_ret
      exact ⟨_, rfl, P', HO.out, by rw [HPM.out, List.take_of_length_le (by rw [HLl.out]; exact Nat.le_refl _)], HB.out⟩
end Go.Proofs.YtdamhdceajmdfaaDoor
