
-- The same nodes.
import Derived.Test.YtiedimmbcmpfbaaSN
namespace Go.Proofs.Ytiedimmbcmpfbaa
open Go.ChangeShapes Go.WideShapes Go.ChangeAt Go.RowKit Go.MapKept
set_option linter.unusedVariables false
set_option maxRecDepth 100000
/-- nodes as they are read in one world -/
structure NdS (w : World) (v : Value) (vs : List Nv) (Ns : List No) : Prop where
  row : RowG noL w v vs
  len : vs.length = Ns.length
  at_ : ∀ (i : Nat) (x : Nv) (N : No), vs[i]? = some x → Ns[i]? = some N → x.nm = N.nm ∧ RowT w (slV x.d) N.df ∧ RowT w (slV x.n) N.nd
theorem NdS.on {w w' : World} {v : Value} {vs : List Nv} {Ns : List No} (h : NdS w v vs Ns) (hb : Below w.heap.size w w') : NdS w' v vs Ns :=
  ⟨h.row.on hb, h.len, fun i x N h1 h2 => ⟨(h.at_ i x N h1 h2).1, (h.at_ i x N h1 h2).2.1.on hb, (h.at_ i x N h1 h2).2.2.on hb⟩⟩
theorem NodesAt.nds {F : Nat → Prop} {w : World} {v : Value} {vs : List Nv} {Ns : List No} (h : NodesAt F w v vs Ns) : NdS w v vs Ns :=
  ⟨h.row.row, h.len, fun i x N h1 h2 => ⟨(h.at_ i x N h1 h2).1, (h.at_ i x N h1 h2).2.1.row, (h.at_ i x N h1 h2).2.2.row⟩⟩
set_option maxHeartbeats 8000000 in
theorem sameNodes_c (v u : Value) (vs us : List Nv) (Ns : List No) (w : World) (h : NdS w v vs Ns) (h' : NdS w u us Ns) (hn : Ns.length < 4611686018427387904) (hi : ∀ N ∈ Ns, N.df.length < 4611686018427387904 ∧ N.nd.length < 4611686018427387904) :
    Calls Try.prog 7 #[v, u] w fun e w' => e = .returned (.bool true) ∧ Below w.heap.size w w' := by
  obtain ⟨a1, c1, q1, _, _⟩ := h.row.form
  obtain ⟨a2, c2, q2, _, _⟩ := h'.row.form
  obtain ⟨n, hnn⟩ : ∃ n, n = Ns.length := ⟨_, rfl⟩
  rw [h.len, ← hnn] at q1
  rw [h'.len, ← hnn] at q2
  have HN := hidK hnn
  have HV := hidK h
  have HU := hidK h'
  subst q1 q2
  rw [← hnn] at hn
  have HLV : Hid (vs.length = n ∧ us.length = n) := ⟨by rw [h.len, hnn], by rw [h'.len, hnn]⟩
  have HI := hidK hi
  clear h h' hnn hi
  go_enter Try.func7, Try.ntmps7
  go_wp2
  go_loopw [5] (fun i wx => ∃ k : Nat, i = .int .i64 k ∧ k ≤ n ∧ Below w.heap.size w wx) (fun i _ => n - (intOf i).toNat)
  case atStart => exact ⟨0, rfl, Nat.zero_le _, Below.refl _ _⟩
  case round =>
    obtain ⟨k, rfl, hkn, hB⟩ := hrel
    by_cases hk : k < n
    · have kI : (k : Int) < (n : Int) := by omega
      have k0 : (0 : Int) ≤ (k : Int) := by omega
      have kw : IntKind.i64.wrap ((k : Int) + 1) = (k : Int) + 1 := by rw [IntKind.wrap_i64]; omega
      obtain ⟨N, hN⟩ : ∃ x, Ns[k]? = some x := ⟨_, List.getElem?_eq_getElem (by have := HN.out; omega)⟩
      obtain ⟨x, hx⟩ : ∃ x, vs[k]? = some x := ⟨_, List.getElem?_eq_getElem (by have := HLV.out.1; omega)⟩
      obtain ⟨y, hy⟩ : ∃ x, us[k]? = some x := ⟨_, List.getElem?_eq_getElem (by have := HLV.out.2; omega)⟩
      have hV := HV.out.on hB
      have hU := HU.out.on hB
      obtain ⟨b1, o1, p1, e1, d0, d1, d2⟩ := hV.row.no hx
      obtain ⟨b2, o2, p2, e2, f0, f1, f2⟩ := hU.row.no hy
      obtain ⟨hn1, ha1, ha2⟩ := hV.at_ k x N hx hN
      obtain ⟨hn2, hb1, hb2⟩ := hU.at_ k y N hy hN
      rw [hn1] at d0
      rw [hn2] at f0
      obtain ⟨nm1, ⟨xa, xl, xc⟩, ⟨xd, xm, xe⟩⟩ := x
      obtain ⟨nm2, ⟨ya, yl, yc⟩, ⟨yd, ym, ye⟩⟩ := y
      simp only [slV] at d0 d1 d2 f0 f1 f2 ha1 ha2 hb1 hb2
      injection e1 with e1 e1b e1c
      injection e2 with e2 e2b e2c
      subst e1 e2
      have hNm := HI.out N (List.mem_of_getElem? hN)
      have HC1 : Hid (∀ W, Below wr.heap.size wr W → Calls Try.prog 16 #[.slice xa xl xc, .slice ya yl yc] W fun e w' => e = .returned (.bool true) ∧ Below wr.heap.size wr w') := fun W hb => (sameTexts_c _ _ N.df W (ha1.on hb) (hb1.on hb) hNm.1).mono (by
        rintro e w' ⟨q1, q2⟩
        exact ⟨q1, bel3K hb q2⟩)
      have HC2 : Hid (∀ W, Below wr.heap.size wr W → Calls Try.prog 16 #[.slice xd xm xe, .slice yd ym ye] W fun e w' => e = .returned (.bool true) ∧ Below wr.heap.size wr w') := fun W hb => (sameTexts_c _ _ N.nd W (ha2.on hb) (hb2.on hb) hNm.2).mono (by
        rintro e w' ⟨q1, q2⟩
        exact ⟨q1, bel3K hb q2⟩)
      have hv0 : ∀ W, Below wr.heap.size wr W → W.cell? ⟨b1, o1 + k * 3 + 1, none⟩ = some (.slice xa xl xc) := fun W hb => cell_onG d1 hb
      have hv1 : ∀ W, Below wr.heap.size wr W → W.cell? ⟨b1, o1 + k * 3 + 2, none⟩ = some (.slice xd xm xe) := fun W hb => cell_onG d2 hb
      have hv2 : ∀ W, Below wr.heap.size wr W → W.cell? ⟨b2, o2 + k * 3 + 1, none⟩ = some (.slice ya yl yc) := fun W hb => cell_onG f1 hb
      have hv3 : ∀ W, Below wr.heap.size wr W → W.cell? ⟨b2, o2 + k * 3 + 2, none⟩ = some (.slice yd ym ye) := fun W hb => cell_onG f2 hb
      have HD0 := hidK d0
      have HF0 := hidK f0
      have HB0 := hidK hB
      obtain ⟨v1, hv1e⟩ : ∃ v, v = Value.slice xa xl xc := ⟨_, rfl⟩
      obtain ⟨v2, hv2e⟩ : ∃ v, v = Value.slice xd xm xe := ⟨_, rfl⟩
      rw [← hv1e] at hv0 HC1
      rw [← hv2e] at hv1 HC2
      have hb0 : Below wr.heap.size wr wr := Below.refl _ _
      clear hN hx hy hV hU e1b e1c e2b e2c HV HU hB d0 d1 d2 f0 f1 f2 ha1 ha2 hb1 hb2 hNm hn1 hn2 hv1e hv2e
      go_upto_region 6 with fail
      go_region_held3 (fun w' => Below wr.heap.size wr w') (first | assumption | exact hb0.drew | exact hSw.drew) (first
        | (go_at_call_of 16 v1; refine (HC1.out _ (by assumption)).mono ?_; rintro e w5 ⟨rfl, hS5⟩)
        | (go_at_call_of 16 v2; refine (HC2.out _ (by assumption)).mono ?_; rintro e w6 ⟨rfl, hS6⟩))
      have HS6 := hidK hS6
      have d0 := cell_onG HD0.out hS6
      have f0 := cell_onG HF0.out hS6
      clear hv0 hv1 hv2 hv3 hb0 hS6
      go_wp2_with fail
      go_quiet (fail)
      have hB3 := belDrewN (HB0.out.trans (HS6.out.mono HB0.out.size)) nq
      go_wp2
      go_roundw
      case rel => exact ⟨k + 1, by go_num, by omega, hB3⟩
      case measure => simp [intOf]; omega
    · obtain rfl : k = n := by omega
      clear HV HU
      go_wp2
      go_ret
      exact ⟨rfl, hB⟩
end Go.Proofs.Ytiedimmbcmpfbaa
