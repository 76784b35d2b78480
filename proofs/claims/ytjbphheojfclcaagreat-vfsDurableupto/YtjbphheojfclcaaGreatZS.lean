
-- VfsStruck's walk.
import Derived.Test.YtjbphheojfclcaaGreatZT
import Derived.Deep.CutRange
namespace Go.Proofs.YtjbphheojfclcaaGreat
open Go.ChangeShapes Go.WideShapes Go.ChangeAt Go.RowKit
set_option linter.unusedVariables false
set_option maxRecDepth 100000
variable {PS : (Nat → Prop) → Nat → St → World → Prop}
attribute [local go_sem ↓] Go.wp_at_zero Go.wp_at_succ
theorem sizeOpv : (Tryz.prog.info? 39).map (·.size) = some 10 := by kernel_rfl
def opvL (K n : Int) (a b : ByteArray) (m0 m1 m2 m3 : Int) (pv cv : Value) : Array Value := #[.int .i64 K, .int .i64 n, .string a, .string b, .int .i64 m0, .int .i64 m1, .int .i64 m2, .int .i64 m3, pv, cv]
/-- A new volume of each: both none, or two that are apart. -/
theorem struck_no (C : PC PS) (c : Int) (hc : c < 0 ∨ 1073741824 < c) (v1 : Value) (o : Opv) (sh : Bool) (v4 : Value) (w : World) :
    Calls Tryz.prog 6 #[.int .i64 c, v1, o.v, .bool sh, v4] w fun e w' => e = .returned (.bool true) ∧ Below w.heap.size w w' := by
  have HN : Hid (∀ W, Calls Tryz.prog 10 #[.int .i64 c] W fun e w' => e = .returned (.pointer none) ∧ Below W.heap.size W w') := fun W => open_no C c W hc
  have HG : Hid (∀ W, Calls Tryz.prog 9 #[.int .i64 c] W fun e w' => e = .returned (.bool false) ∧ w' = W) := fun W => by
    have h := good_c c W
    have e : (decide (0 ≤ c) && decide (c ≤ 1073741824)) = false := by
      rcases hc with h | h
      · have : decide (0 ≤ c) = false := by simp; omega
        rw [this]; rfl
      · have : decide (c ≤ 1073741824) = false := by simp; omega
        rw [this, Bool.and_false]
    rw [e] at h; exact h
  have HA : Hid (∀ X, Below w.heap.size w (w.alloc X)) := fun X => (Below.refl _ w).alloc (Nat.le_refl _) _
  unfold Opv.v
  clear hc
  go_enter Tryz.func6, Tryz.ntmps6
  go_wp2_with fail
  go_at_call 10
  refine (HN.out _).mono ?_
  rintro e w1 ⟨rfl, hb1⟩
  go_wp2_with fail
  go_at_call 10
  refine (HN.out _).mono ?_
  rintro e w2 ⟨rfl, hb2⟩
  go_wp2_with (go_at_call 9; refine (HG.out _).mono ?_; rintro e w3 ⟨rfl, hw3⟩; subst w3)
  go_returns
  exact ⟨rfl, ((HA.out _).trans (hb1.mono (HA.out _).size)).trans (hb2.mono (Nat.le_trans (HA.out _).size hb1.size))⟩
/-- Both, and the step's box. -/
def StB (PS : (Nat → Prop) → Nat → St → World → Prop) (U : Nat → Prop) (va vb : Nat) (x y : Vl) (r : Nat) (cs : Array Value) (w W : World) : Prop := T2D PS U va vb x y w W ∧ W.heap[r]? = some (.cells cs 39 (0, 0)) ∧ r < w.heap.size ∧ ¬ U r ∧ r < W.heap.size
theorem StB.of {U : Nat → Prop} {va vb : Nat} {x y x' y' : Vl} {r : Nat} {cs : Array Value} {w W W' : World} (h : StB PS U va vb x y r cs w W) (hd : T2D PS U va vb x' y' w W') (w0 : World) (hw0 : w0.heap[r]? = some (.cells cs 39 (0, 0))) (hww : w = w0) : StB PS U va vb x' y' r cs w W' := by
  subst hww
  exact ⟨hd, (hd.2.block r h.2.2.1 h.2.2.2.1).trans hw0, h.2.2.1, h.2.2.2.1, by have := hd.2.size; have := h.2.2.1; omega⟩
theorem at10 {W : World} {r : Nat} {c0 c1 c2 c3 c4 c5 c6 c7 c8 c9 : Value} {t : TypeId} (h : W.heap[r]? = some (.cells #[c0, c1, c2, c3, c4, c5, c6, c7, c8, c9] t (0, 0))) :
    W.cell? ⟨r, 0, none⟩ = some c0 ∧ W.cell? ⟨r, 1, none⟩ = some c1 ∧ W.cell? ⟨r, 2, none⟩ = some c2 ∧ W.cell? ⟨r, 3, none⟩ = some c3 ∧ W.cell? ⟨r, 4, none⟩ = some c4 ∧ W.cell? ⟨r, 5, none⟩ = some c5 ∧ W.cell? ⟨r, 6, none⟩ = some c6 ∧ W.cell? ⟨r, 7, none⟩ = some c7 ∧ W.cell? ⟨r, 8, none⟩ = some c8 ∧ W.cell? ⟨r, 9, none⟩ = some c9 := by
  refine ⟨?_, ?_, ?_, ?_, ?_, ?_, ?_, ?_, ?_, ?_⟩ <;> (rw [Lib.cell_of_heap h]; rfl)
set_option maxRecDepth 20000 in
set_option maxHeartbeats 16000000 in
theorem struck_w (C : PC PS) (c : Nat) (hc : c ≤ 1073741824) (v1 : Value) (ops1 : List Opv) (K n : Int) (a b : ByteArray) (m0 m1 m2 m3 : Int) (po : Option Addr) (pl pc : Nat) (co : Option Addr) (cl cc : Nat) (sh : Bool) (v4 : Value) (ops4 : List Opv) (w : World)
    (ro1 : RowV w v1 ops1) (ok1 : ∀ o ∈ ops1, OkC o) (has : a.size ≤ 2097152) (ro4 : RowV w v4 ops4) (ok4 : ∀ o ∈ ops4, OkC o) (ll : ops1.length + ops4.length ≤ 1048576) :
    Calls Tryz.prog 6 #[.int .i64 (c : Int), v1, .agg #[.int .i64 K, .int .i64 n, .string a, .string b, .int .i64 m0, .int .i64 m1, .int .i64 m2, .int .i64 m3, .slice po pl pc, .slice co cl cc], .bool sh, v4] w fun e w' => e = .returned (.bool true) ∧ Below w.heap.size w w' := by
  have HN : Hid (∀ W, Calls Tryz.prog 10 #[.int .i64 (c : Int)] W fun e w' => ∃ vb, e = .returned (.pointer (some ⟨vb, 0, none⟩)) ∧ VA PS (fun k => W.heap.size ≤ k ∧ k < w'.heap.size) vb (Vl.new c) w' ∧ Below W.heap.size W w') := fun W => open_c C c W hc
  obtain ⟨W0, hW0⟩ : ∃ W0, W0 = w.alloc (.cells #[.int .i64 K, .int .i64 n, .string a, .string b, .int .i64 m0, .int .i64 m1, .int .i64 m2, .int .i64 m3, .slice po pl pc, .slice co cl cc] 39) := ⟨_, rfl⟩
  have hbA : Below w.heap.size w W0 := by rw [hW0]; exact (Below.refl _ w).alloc (Nat.le_refl _) _
  have hsA : W0.heap.size = w.heap.size + 1 := by rw [hW0]; simp
  have hxA : W0.heap[w.heap.size]? = some (.cells #[.int .i64 K, .int .i64 n, .string a, .string b, .int .i64 m0, .int .i64 m1, .int .i64 m2, .int .i64 m3, .slice po pl pc, .slice co cl cc] 39 (0, 0)) := by rw [hW0]; exact heap_alloc_new _ _
  have HW0 : Hid (W0 = w.alloc (.cells #[.int .i64 K, .int .i64 n, .string a, .string b, .int .i64 m0, .int .i64 m1, .int .i64 m2, .int .i64 m3, .slice po pl pc, .slice co cl cc] 39) ∧ Below w.heap.size w W0 ∧ W0.heap.size = w.heap.size + 1 ∧ W0.heap[w.heap.size]? = some (.cells #[.int .i64 K, .int .i64 n, .string a, .string b, .int .i64 m0, .int .i64 m1, .int .i64 m2, .int .i64 m3, .slice po pl pc, .slice co cl cc] 39 (0, 0))) := ⟨hW0, hbA, hsA, hxA⟩
  have HR : Hid (((∀ o ∈ ops1, OkC o) ∧ ops1.length ≤ 1048576) ∧ (∀ o ∈ ops4, OkC o) ∧ ops1.length + ops4.length ≤ 1048576) := ⟨⟨ok1, by omega⟩, ok4, ll⟩
  have HV1 : Hid (RowV w v1 ops1) := ro1
  have HV4 : Hid (RowV w v4 ops4) := ro4
  obtain ⟨ao1, cp1, rfl⟩ := ro1.form
  obtain ⟨ao4, cp4, rfl⟩ := ro4.form
  obtain ⟨L1, hL1⟩ : ∃ n, n = ops1.length := ⟨_, rfl⟩
  obtain ⟨L4, hL4⟩ : ∃ n, n = ops4.length := ⟨_, rfl⟩
  rw [← hL1] at HV1
  rw [← hL4] at HV4
  rw [← hL1, ← hL4]
  have HFX : Hid (Vlf (Vl.new c) 0) := Vlf.new c hc
  have HAS : Hid (a.size ≤ 140737488355328) := by show _ ≤ _; omega
  clear hW0 hbA hsA hxA ro1 ok1 ro4 ok4 ll hc has hL1 hL4
  go_enter Tryz.func6, Tryz.ntmps6
  go_upto_region 1 with fail
  rw [← HW0.out.1]
  go_wp2_with fail
  go_at_call 10
  refine (HN.out _).mono ?_
  rintro e w1 ⟨va, rfl, ha1, hb1⟩
  have HA1 : Hid (VA PS (fun k => W0.heap.size ≤ k ∧ k < w1.heap.size) va (Vl.new c) w1 ∧ Below W0.heap.size W0 w1) := ⟨ha1, hb1⟩
  clear ha1 hb1
  go_wp2_with fail
  go_at_call 10
  refine (HN.out _).mono ?_
  rintro e w2 ⟨vb, rfl, ha2, hb2⟩
  obtain ⟨U, hU⟩ : ∃ U : Nat → Prop, U = fun k => (W0.heap.size ≤ k ∧ k < w1.heap.size) ∨ (w1.heap.size ≤ k ∧ k < w2.heap.size) := ⟨_, rfl⟩
  have HT0 : Hid (T2D PS U va vb (Vl.new c) (Vl.new c) w2 w2) := by
    rw [hU]
    exact T2D.start (two_open C HA1.out.1 hb2 ha2 fun k h1 h2 => by have := h1.2; have := h2.1; omega)
  have HU : Hid (∀ k, U k → w.heap.size + 1 ≤ k) := by
    intro k hk
    rw [hU] at hk
    have h1 := HW0.out.2.2.1
    have h2 := HA1.out.2.size
    rcases hk with hk | hk
    · have := hk.1; omega
    · have := hk.1; omega
  have HB2 : Hid (Below w.heap.size w w2 ∧ w.heap.size < w2.heap.size ∧ w2.heap[w.heap.size]? = some (.cells #[.int .i64 K, .int .i64 n, .string a, .string b, .int .i64 m0, .int .i64 m1, .int .i64 m2, .int .i64 m3, .slice po pl pc, .slice co cl cc] 39 (0, 0))) := by
    have h1 := HW0.out.2.2.1
    have h3 := HA1.out.2.trans (hb2.mono HA1.out.2.size)
    have h2 := h3.size
    exact ⟨HW0.out.2.1.trans (h3.mono (by omega)), by omega, (h3.block _ (by omega)).trans HW0.out.2.2.2⟩
  -- what holds behind whatever was done on both
  have HBW : Hid (∀ X Y W, T2D PS U va vb X Y w2 W → Below w.heap.size w W) := fun X Y W h => by
    have := h.2.below (B := w.heap.size) (fun k hk => by have := HU.out k hk; omega) (by have := HB2.out.2.1; omega)
    exact HB2.out.1.trans this
  have HRW : Hid (∀ X Y W, T2D PS U va vb X Y w2 W → ∀ W', Below W.heap.size W W' → ∀ v ops, RowV w v ops → RowV W' v ops ∧ (ops ≠ [] → ∀ k, v.ownBlock = some k → ¬ ext U w2 W k)) := fun X Y W h W' hb v ops hv => by
    have h1 := HBW.out X Y W h
    refine ⟨(hv.on h1).on hb, fun hne k hk hx => ?_⟩
    have h2 := hv.ownlt hne k hk
    rcases hx with hx | hx
    · have := HU.out k hx; omega
    · have := HB2.out.2.1; omega
  clear ha2 hb2 hU HN
  go_wp2_with fail
  go_at_call 20
  refine (closed_c _ ops1 _ (HV1.out.on HB2.out.1) (by have := HR.out.1.2; omega)).mono ?_
  rintro e w3 ⟨rfl, hb3⟩
  have HT3 : Hid (T2D PS U va vb (Vl.new c) (Vl.new c) w2 w3) := HT0.out.below C hb3
  clear hb3
  go_wp2_with fail
  go_at_call 14
  refine (T2D.both C HT3.out (Sim.refl rfl) HFX.out HFX.out (Below.refl _ _) (HRW.out _ _ _ HT3.out _ (Below.refl _ _) _ _ HV1.out).1 (HRW.out _ _ _ HT3.out _ (Below.refl _ _) _ _ HV1.out).2 HR.out.1.1 (by have := HR.out.1.2; omega)).mono ?_
  rintro e w4 ⟨rfl, ht4⟩
  obtain ⟨X, hX⟩ : ∃ X, X = (Vl.new c).plays (ops1.map Opv.c) := ⟨_, rfl⟩
  rw [← hX] at ht4
  have HX : Hid (Vlf X ops1.length ∧ X.v.plan = [] ∧ X.v.off = false ∧ (hasClose ops1 = false → AllOpen X)) := by
    rw [hX]
    refine ⟨(HFX.out.plays _ (by rw [List.length_map]; have := HR.out.1.2; omega)).mono (by rw [List.length_map]; omega), plays_plan _ _, plays_off _ _ rfl, fun h => AllOpen.plays (fun h hh => by simp [Vl.new] at hh) _ (hasClose_no h)⟩
  have HT4 : Hid (T2D PS U va vb X X w2 w4 ∧ w4.heap[w.heap.size]? = some (.cells #[.int .i64 K, .int .i64 n, .string a, .string b, .int .i64 m0, .int .i64 m1, .int .i64 m2, .int .i64 m3, .slice po pl pc, .slice co cl cc] 39 (0, 0))) := ⟨ht4, (ht4.2.block _ HB2.out.2.1 fun h => by have := HU.out _ h; omega).trans HB2.out.2.2⟩
  obtain ⟨x0, x1, x2, x3, x4, x5, x6, x7, x8, x9⟩ := at10 HT4.out.2
  clear hX ht4
  go_wp2_with fail
  go_at_call 21
  refine (T2D.can C HT4.out.1 HX.out.1 (by have := HR.out.1.2; omega) K n a b m0 m1 m2 m3 po pl pc co cl cc (Below.refl _ _)).mono ?_
  rintro e w5 ⟨rfl, ht5, hb5⟩
  obtain ⟨cn, hcn⟩ : ∃ z, z = X.can ⟨K, n, a, b, m0, m1, m2, m3⟩ := ⟨_, rfl⟩
  obtain ⟨hcl, hhcl⟩ : ∃ z, z = hasClose ops1 := ⟨_, rfl⟩
  have HCN : Hid (cn = X.can ⟨K, n, a, b, m0, m1, m2, m3⟩ ∧ hcl = hasClose ops1) := ⟨hcn, hhcl⟩
  rw [← hcn, ← hhcl]
  have HT5 : Hid (T2D PS U va vb X X w2 w5 ∧ w5.heap[w.heap.size]? = some (.cells #[.int .i64 K, .int .i64 n, .string a, .string b, .int .i64 m0, .int .i64 m1, .int .i64 m2, .int .i64 m3, .slice po pl pc, .slice co cl cc] 39 (0, 0))) := ⟨ht5, (hb5.block _ (Array.getElem?_eq_some_iff.1 HT4.out.2).1).trans HT4.out.2⟩
  obtain ⟨x0, x1, x2, x3, x4, x5, x6, x7, x8, x9⟩ := at10 HT5.out.2
  clear ht5 hb5 hcn hhcl
  go_upto_region 11 with fail
  go_cut [61] from 52 to 61 (fun bv wx => bv = .bool (!cn || (hcl && decide (8 ≤ K))) ∧ T2D PS U va vb X X w2 wx ∧ wx.heap[w.heap.size]? = some (.cells #[.int .i64 K, .int .i64 n, .string a, .string b, .int .i64 m0, .int .i64 m1, .int .i64 m2, .int .i64 m3, .slice po pl pc, .slice co cl cc] 39 (0, 0)))
  case first =>
    have HT6 : Hid (T2D PS U va vb X X w2 w5 ∧ w5.heap[w.heap.size]? = some (.cells #[.int .i64 K, .int .i64 n, .string a, .string b, .int .i64 m0, .int .i64 m1, .int .i64 m2, .int .i64 m3, .slice po pl pc, .slice co cl cc] 39 (0, 0))) := HT5
    clear HCN
    cases cn
    · go_wp2
      go_meet
      exact ⟨rfl, HT6.out⟩
    · cases hcl
      · go_wp2
        go_meet
        exact ⟨rfl, HT6.out⟩
      · by_cases h8 : 8 ≤ K
        · have b8 : decide (K ≥ (8 : Int)) = true := by simp; omega
          have b9 : decide ((8 : Int) ≤ K) = true := by simp; omega
          go_wp2
          go_meet
          exact ⟨by rw [b9]; rfl, HT6.out⟩
        · have b8 : decide (K ≥ (8 : Int)) = false := by simp; omega
          have b9 : decide ((8 : Int) ≤ K) = false := by simp; omega
          go_wp2
          go_meet
          exact ⟨by rw [b9]; rfl, HT6.out⟩
  case rest =>
    obtain ⟨rfl, ht6, hx6⟩ := hcut
    clear x0 x1 x2 x3 x4 x5 x6 x7 x8 x9
    go_upto_if 61 with fail
    go_cut [] from 52 to 62 (fun wx => ∃ U2, T2 PS U2 va vb X X wx ∧ (∀ k, U2 k → w.heap.size + 1 ≤ k) ∧ Below w.heap.size w wx ∧ ∃ K2 n2 a2 b2 p0 p1 p2 p3 qo ql qc ro rl rc, wx.heap[w.heap.size]? = some (.cells #[.int .i64 K2, .int .i64 n2, .string a2, .string b2, .int .i64 p0, .int .i64 p1, .int .i64 p2, .int .i64 p3, .slice qo ql qc, .slice ro rl rc] 39 (0, 0)) ∧ X.can ⟨K2, n2, a2, b2, p0, p1, p2, p3⟩ = true ∧ a2.size ≤ 140737488355328 ∧ (K2 = 8 ∨ K2 = 9 → AllOpen X))
    case first =>
      have HT6 : Hid (T2D PS U va vb X X w2 wc ∧ wc.heap[w.heap.size]? = some (.cells #[.int .i64 K, .int .i64 n, .string a, .string b, .int .i64 m0, .int .i64 m1, .int .i64 m2, .int .i64 m3, .slice po pl pc, .slice co cl cc] 39 (0, 0))) := ⟨ht6, hx6⟩
      have HUX : Hid (∀ k, ext U w2 wc k → w.heap.size + 1 ≤ k) := fun k hk => by
        rcases hk with hk | hk
        · exact HU.out k hk
        · have := HB2.out.2.1; omega
      obtain ⟨bb, hbb⟩ : ∃ bb, bb = (!cn || (hcl && decide (8 ≤ K))) := ⟨_, rfl⟩
      have HBB : Hid (bb = (!cn || (hcl && decide (8 ≤ K)))) := hbb
      rw [← hbb]
      clear ht6 hbb
      cases bb
      · have h1 : cn = true ∧ (hcl = true → ¬ 8 ≤ K) := by
          have := HBB.out
          cases cn <;> cases hcl <;> simp at this ⊢ <;> omega
        have HE : Hid (∃ U2, T2 PS U2 va vb X X wc ∧ (∀ k, U2 k → w.heap.size + 1 ≤ k) ∧ Below w.heap.size w wc ∧ ∃ K2 n2 a2 b2 p0 p1 p2 p3 qo ql qc ro rl rc, wc.heap[w.heap.size]? = some (.cells #[.int .i64 K2, .int .i64 n2, .string a2, .string b2, .int .i64 p0, .int .i64 p1, .int .i64 p2, .int .i64 p3, .slice qo ql qc, .slice ro rl rc] 39 (0, 0)) ∧ X.can ⟨K2, n2, a2, b2, p0, p1, p2, p3⟩ = true ∧ a2.size ≤ 140737488355328 ∧ (K2 = 8 ∨ K2 = 9 → AllOpen X)) :=
          ⟨ext U w2 wc, HT6.out.1.1, HUX.out, HBW.out _ _ _ HT6.out.1, K, n, a, b, m0, m1, m2, m3, po, pl, pc, co, cl, cc, HT6.out.2, by rw [← HCN.out.1]; exact h1.1, HAS.out, fun h => HX.out.2.2.2 (by
            rw [← HCN.out.2]
            cases hcl
            · rfl
            · exact absurd (by omega) (h1.2 rfl))⟩
        clear h1 hx6
        go_wp2
        go_meet
        exact HE.out
      · have HE : Hid (∀ W : World, W = wc.setRow w.heap.size #[.int .i64 3, .int .i64 0, .string ⟨#[]⟩, .string ⟨#[]⟩, .int .i64 0, .int .i64 0, .int .i64 0, .int .i64 0, .slice none 0 0, .slice none 0 0] → ∃ U2, T2 PS U2 va vb X X W ∧ (∀ k, U2 k → w.heap.size + 1 ≤ k) ∧ Below w.heap.size w W ∧ ∃ K2 n2 a2 b2 p0 p1 p2 p3 qo ql qc ro rl rc, W.heap[w.heap.size]? = some (.cells #[.int .i64 K2, .int .i64 n2, .string a2, .string b2, .int .i64 p0, .int .i64 p1, .int .i64 p2, .int .i64 p3, .slice qo ql qc, .slice ro rl rc] 39 (0, 0)) ∧ X.can ⟨K2, n2, a2, b2, p0, p1, p2, p3⟩ = true ∧ a2.size ≤ 140737488355328 ∧ (K2 = 8 ∨ K2 = 9 → AllOpen X)) := fun W hW => by
          have hsz : W.heap.size = wc.heap.size := by rw [hW]; simp
          have ho : ∀ k, k ≠ w.heap.size → W.heap[k]? = wc.heap[k]? := fun k hk => by rw [hW]; exact setRow_other _ _ _ hk
          have hnU : ¬ U w.heap.size := fun h => by have := HU.out _ h; omega
          have hbw := HBW.out _ _ _ HT6.out.1
          have ht := T2D.beside C HT6.out.1 HB2.out.2.1 hnU hsz ho
          refine ⟨ext U w2 W, ht, fun k hk => HUX.out k (by unfold ext at hk ⊢; rw [hsz] at hk; exact hk), ⟨by rw [hW]; exact hbw.os, by rw [hW]; exact hbw.tape, by rw [hW]; exact hbw.output, by rw [hsz]; exact hbw.size, fun k hk => (ho k (by omega)).trans (hbw.block k hk)⟩, 3, 0, ⟨#[]⟩, ⟨#[]⟩, 0, 0, 0, 0, none, 0, 0, none, 0, 0, ?_, rfl, Nat.zero_le _, fun h => by omega⟩
          rw [hW]; exact setRow_heap _ _ _ _ _ _ HT6.out.2
        go_wp2_with (refine wpList_store_row rfl 39 _ _ rfl w.heap.size #[.int .i64 3, .int .i64 0, .string ⟨#[]⟩, .string ⟨#[]⟩, .int .i64 0, .int .i64 0, .int .i64 0, .int .i64 0, .slice none 0 0, .slice none 0 0] rfl rfl _ _ hx6 sizeOpv rfl (by simp [Value.oneCell']) ?_)
        go_meet
        exact HE.out _ rfl
    case rest =>
      obtain ⟨U2, ht7, hU2, hbw7, K2, n2, a2, b2, p0, p1, p2, p3, qo, ql, qc, ro, rl, rc, hx7, hcan, has2, hop⟩ := hcut
      clear ht6 hx6
      obtain ⟨wb, hwb⟩ : ∃ z, z = wc := ⟨_, rfl⟩
      subst hwb
      have HT7 : Hid (T2D PS U2 va vb X X wb wb ∧ wb.heap[w.heap.size]? = some (.cells #[.int .i64 K2, .int .i64 n2, .string a2, .string b2, .int .i64 p0, .int .i64 p1, .int .i64 p2, .int .i64 p3, .slice qo ql qc, .slice ro rl rc] 39 (0, 0))) := ⟨T2D.start ht7, hx7⟩
      have HU2 : Hid ((∀ k, U2 k → w.heap.size + 1 ≤ k) ∧ Below w.heap.size w wb ∧ w.heap.size < wb.heap.size) := ⟨hU2, hbw7, (Array.getElem?_eq_some_iff.1 hx7).1⟩
      have HCA : Hid (X.can ⟨K2, n2, a2, b2, p0, p1, p2, p3⟩ = true ∧ a2.size ≤ 140737488355328 ∧ (K2 = 8 ∨ K2 = 9 → AllOpen X)) := ⟨hcan, has2, hop⟩
      have HBW2 : Hid (∀ X Y W, T2D PS U2 va vb X Y wb W → Below w.heap.size w W) := fun X Y W h => by
        have := h.2.below (B := w.heap.size) (fun k hk => by have := HU2.out.1 k hk; omega) (by have := HU2.out.2.2; omega)
        exact HU2.out.2.1.trans this
      have HRW2 : Hid (∀ X Y W, T2D PS U2 va vb X Y wb W → ∀ W', Below W.heap.size W W' → ∀ v ops, RowV w v ops → RowV W' v ops ∧ (ops ≠ [] → ∀ k, v.ownBlock = some k → ¬ ext U2 wb W k)) := fun X Y W h W' hb v ops hv => by
        have h1 := HBW2.out X Y W h
        refine ⟨(hv.on h1).on hb, fun hne k hk hx => ?_⟩
        have h2 := hv.ownlt hne k hk
        rcases hx with hx | hx
        · have := HU2.out.1 k hx; omega
        · have := HU2.out.2.2; omega
      have HOPC : Hid (OkC ⟨K2, n2, a2, b2, p0, p1, p2, p3, .slice qo ql qc, .slice ro rl rc, [], []⟩) := ⟨⟨_, _, _, rfl⟩, ⟨_, _, _, rfl⟩, has2⟩
      obtain ⟨x0, x1, x2, x3, x4, x5, x6, x7, x8, x9⟩ := at10 hx7
      clear ht7 hU2 hbw7 hx7 hcan has2 hop HBW HRW HT5 HT4 HT3 HT0 HA1 HB2 HU HCN HW0
      go_upto_region 14 with fail
      go_cut [68] from 62 to 68 (fun bv wx => bv = .bool (sh && !decide (K2 = 8)) ∧ wx = wb)
      case first =>
        cases sh
        · go_wp2
          go_meet
          exact ⟨rfl, rfl⟩
        · by_cases h8 : K2 = 8
          · have b8 : (K2 == (8 : Int)) = true := by simp [h8]
            go_wp2
            go_meet
            exact ⟨by simp [h8], rfl⟩
          · have b8 : (K2 == (8 : Int)) = false := by simp [h8]
            go_wp2
            go_meet
            exact ⟨by simp [h8], rfl⟩
      case rest =>
        obtain ⟨rfl, hwx⟩ := hcut
        replace hwx := hwx.symm
        subst hwx
        go_upto_if 68 with fail
        go_cut [17] from 62 to 68 (fun kv wx => ∃ kd : Int, kv = .int .i64 kd ∧ (kd = 1 ∨ (kd = 2 ∧ K2 ≠ 8)) ∧ wx = wb)
        case first =>
          obtain ⟨bb, hbb⟩ : ∃ bb, bb = (sh && !decide (K2 = 8)) := ⟨_, rfl⟩
          have HBB : Hid (bb = (sh && !decide (K2 = 8))) := hbb
          rw [← hbb]
          clear hbb
          cases bb
          · go_wp2
            go_meet
            exact ⟨1, rfl, .inl rfl, rfl⟩
          · have hk : K2 ≠ 8 := fun e => by have := HBB.out; rw [e] at this; simp at this
            go_wp2
            go_meet
            exact ⟨2, rfl, .inr ⟨rfl, hk⟩, rfl⟩
        case rest =>
          obtain ⟨kd, rfl, hkd, hwx⟩ := hcut
          replace hwx := hwx.symm
          subst hwx
          obtain ⟨⟨op, nm, hA⟩, hc1, hc2, hsim⟩ := struck_plain (Sim.refl HX.out.2.1) HX.out.2.2.1 ⟨K2, n2, a2, b2, p0, p1, p2, p3⟩ HCA.out.1 HCA.out.2.2 kd hkd
          obtain ⟨Y1, hY1⟩ : ∃ Y, Y = X.arm [⟨1, kd, 1099511627776⟩] := ⟨_, rfl⟩
          have hf1 : Vlf Y1 ops1.length := by rw [hY1]; exact HX.out.1.arm _
          rw [← hY1] at hA hc1 hc2 hsim
          obtain ⟨Y2, hY2⟩ : ∃ Y, Y = (Y1.call ⟨K2, n2, a2, b2, p0, p1, p2, p3⟩).2 := ⟨_, rfl⟩
          have hf2 : Vlf Y2 (ops1.length + 1) := by rw [hY2]; exact hf1.call (by have := HR.out.1.2; omega) _
          rw [← hY2] at hc1 hc2 hsim
          obtain ⟨q, hq, fArm, -, -⟩ := HT7.out.1.face C
          have HARM : Hid (Calls Tryz.prog 16 #[.pointer (some ⟨q, 0, none⟩), .slice (some ⟨wb.heap.size, 0, none⟩) 1 1] (wb.alloc (.cells #[.int .i64 1, .int .i64 kd, .int .i64 1099511627776] 52)) fun e w' => e = .returned (.tuple #[]) ∧ T2D PS U2 va vb X Y1 wb w') := by
            rw [hY1]
            exact fArm _ [⟨1, kd, 1099511627776⟩] _ ((Below.refl _ wb).alloc (Nat.le_refl _) _) (rowP_one wb ⟨1, kd, 1099511627776⟩) (fun _ k hk => by simp only [Value.ownBlock, Option.some.injEq] at hk; omega) (by simp)
          have HPL : Hid ((Y1.call ⟨K2, n2, a2, b2, p0, p1, p2, p3⟩).1 = { an0 with bad := true, op := op, nm := nm, e := 40 } ∧ Y2 = (Y1.call ⟨K2, n2, a2, b2, p0, p1, p2, p3⟩).2 ∧ Y2.v.cnt = 1 ∧ Y2.v.off = false ∧ Sim X (Y2.arm []) ∧ Vlf Y1 ops1.length ∧ Vlf Y2 (ops1.length + 1)) := ⟨hA, hY2, hc1, hc2, hsim, hf1, hf2⟩
          clear hA hc1 hc2 hsim hf1 hf2 hY1 hY2 fArm hkd
          go_wp2_with fail
          go_at_call 16
          refine HARM.out.mono ?_
          rintro e w6 ⟨rfl, ht6⟩
          have HT6 : Hid (T2D PS U2 va vb X Y1 wb w6) := ht6
          have hx6 := (ht6.2.block w.heap.size HU2.out.2.2 fun h => by have := HU2.out.1 _ h; omega).trans HT7.out.2
          obtain ⟨x0, x1, x2, x3, x4, x5, x6, x7, x8, x9⟩ := at10 hx6
          have HCALL : Hid (Calls Tryz.prog 11 #[.pointer (some ⟨vb, 0, none⟩), .agg #[.int .i64 K2, .int .i64 n2, .string a2, .string b2, .int .i64 p0, .int .i64 p1, .int .i64 p2, .int .i64 p3, .slice qo ql qc, .slice ro rl rc]] w6 fun e w' => ∃ ao c3, e = .returned (.agg #[.string ⟨#[]⟩, .int .i64 0, .int .i64 0, .int .i64 0, .int .i64 0, .int .i64 0, .string ⟨#[]⟩, .int .i64 0, .slice ao 0 c3, .bool true, .bool false, .string op, .string nm, .int .i64 40]) ∧ T2D PS U2 va vb X Y2 wb w') := by
            refine (T2D.call C HT6.out HPL.out.2.2.2.2.2.1 (by have := HR.out.1.2; omega) ⟨K2, n2, a2, b2, p0, p1, p2, p3, .slice qo ql qc, .slice ro rl rc, [], []⟩ HOPC.out (Below.refl _ w6)).mono ?_
            rintro e w' ⟨ao, c3, rfl, ht⟩
            have e1 : Y1.call (Opv.c ⟨K2, n2, a2, b2, p0, p1, p2, p3, .slice qo ql qc, .slice ro rl rc, [], []⟩) = Y1.call ⟨K2, n2, a2, b2, p0, p1, p2, p3⟩ := rfl
            rw [e1] at ht ⊢
            rw [HPL.out.1, HPL.out.2.1]
            exact ⟨ao, c3, rfl, ht⟩
          clear ht6 hx6 HARM hq
          go_wp2_with fail
          go_at_call 11
          refine HCALL.out.mono ?_
          rintro e w7 ⟨ao, c3, rfl, ht7⟩
          have HT8 : Hid (T2D PS U2 va vb X Y2 wb (w7.alloc (.cells #[.string ⟨#[]⟩, .int .i64 0, .int .i64 0, .int .i64 0, .int .i64 0, .int .i64 0, .string ⟨#[]⟩, .int .i64 0, .slice ao 0 c3, .bool true, .bool false, .string op, .string nm, .int .i64 40] 34))) := ht7.below C ((Below.refl _ w7).alloc (Nat.le_refl _) _)
          have HREF : Hid (∀ W, Calls Tryz.prog 13 #[.agg #[.string ⟨#[]⟩, .int .i64 0, .int .i64 0, .int .i64 0, .int .i64 0, .int .i64 0, .string ⟨#[]⟩, .int .i64 0, .slice ao 0 c3, .bool true, .bool false, .string op, .string nm, .int .i64 40], .int .i64 40, .int .i64 0] W fun r w' => r = .returned (.bool true) ∧ Below W.heap.size W w') := fun W => refused_c op nm 40 0 ao c3 W
          clear ht7
          go_wp2_with fail
          go_at_call 13
          refine (HREF.out _).mono ?_
          rintro e w8 ⟨rfl, hb8⟩
          have HT9 : Hid (T2D PS U2 va vb X Y2 wb w8) := HT8.out.below C hb8
          obtain ⟨q2, hq2, fA2, fC2, fD2⟩ := HT9.out.face C
          rw [HPL.out.2.2.1] at fC2
          rw [HPL.out.2.2.2.1] at fD2
          have HCN2 : Hid (Calls Tryz.prog 22 #[.pointer (some ⟨q2, 0, none⟩)] w8 fun e w' => e = .returned (.int .i64 1) ∧ w' = w8) := fC2 w8 (Below.refl _ _)
          have HDN2 : Hid (Calls Tryz.prog 23 #[.pointer (some ⟨q2, 0, none⟩)] w8 fun e w' => e = .returned (.bool false) ∧ w' = w8) := fD2 w8 (Below.refl _ _)
          have HAR2 : Hid (Calls Tryz.prog 16 #[.pointer (some ⟨q2, 0, none⟩), .slice none 0 0] w8 fun e w' => e = .returned (.tuple #[]) ∧ T2D PS U2 va vb X (Y2.arm []) wb w') := fA2 w8 [] _ (Below.refl _ _) (rowP_nil _) (fun h => absurd rfl h) (Nat.zero_le _)
          clear hb8 fA2 fC2 fD2
          go_wp2_with (first
            | (go_at_call 22; refine HCN2.out.mono ?_; rintro e w9 ⟨rfl, hw9⟩; subst w9)
            | (go_at_call 23; refine HDN2.out.mono ?_; rintro e w9 ⟨rfl, hw9⟩; subst w9)
            | (go_at_call 16; refine HAR2.out.mono ?_; rintro e w10 ⟨rfl, ht10⟩)
            | (go_at_call 14; refine (T2D.both C ht10 HPL.out.2.2.2.2.1 (HX.out.1.mono (Nat.le_succ _)) (HPL.out.2.2.2.2.2.2.arm []) (Below.refl _ _) (HRW2.out _ _ _ ht10 _ (Below.refl _ _) _ _ HV4.out).1 (HRW2.out _ _ _ ht10 _ (Below.refl _ _) _ _ HV4.out).2 HR.out.2.1 (by have := HR.out.2.2; omega)).mono ?_; rintro e w11 ⟨rfl, ht11⟩))
          go_returns
          exact ⟨rfl, HBW2.out _ _ _ ht11⟩
theorem vfsStruck_w (C : PC PS) (c : Int) (v1 : Value) (ops1 : List Opv) (o : Opv) (sh : Bool) (v4 : Value) (ops4 : List Opv) (w : World) (ro1 : RowV w v1 ops1) (ok1 : ∀ (i : Nat) (o : Opv), ops1[i]? = some o → OpvOk w.heap.size o w) (ko : OpvOk w.heap.size o w) (ro4 : RowV w v4 ops4) (ok4 : ∀ (i : Nat) (o : Opv), ops4[i]? = some o → OpvOk w.heap.size o w) (ll : ops1.length + ops4.length ≤ 1048576) :
    Calls Tryz.prog 6 #[.int .i64 c, v1, o.v, .bool sh, v4] w fun e w' => e = .returned (.bool true) ∧ Below w.heap.size w w' := by
  by_cases hc : c < 0 ∨ 1073741824 < c
  · exact struck_no C c hc v1 o sh v4 w
  · obtain ⟨cn, rfl⟩ := Int.eq_ofNat_of_zero_le (show 0 ≤ c by omega)
    obtain ⟨⟨po, pl, pc, hp⟩, co, cl, cc, hcv⟩ := ko.slices
    have hsm := ko.small
    obtain ⟨K, n, a, b, m0, m1, m2, m3, pv, cv, plan, cuts⟩ := o
    simp only at hp hcv hsm
    subst hp; subst hcv
    exact struck_w C cn (by omega) v1 ops1 K n a b m0 m1 m2 m3 po pl pc co cl cc sh v4 ops4 w ro1 (fun o ho => by
      obtain ⟨i, hi⟩ := List.getElem?_of_mem ho
      exact (ok1 i o hi).okc) hsm ro4 (fun o ho => by
      obtain ⟨i, hi⟩ := List.getElem?_of_mem ho
      exact (ok4 i o hi).okc) ll
end Go.Proofs.YtjbphheojfclcaaGreat
