import Derived.Test.YtmlnnbinbbmmhaaDoorM1
import Derived.Test.YtmlnnbinbbmmhaaDoorM2
import Derived.Deep.QuietTactic

-- LayPlan: what its law looks at.
namespace Go.Proofs.YtmlnnbinbbmmhaaDoor
open Go.ChangeShapes Go.WideShapes Go.ChangeAt Go.RowKit
set_option linter.unusedVariables false
set_option maxRecDepth 100000
theorem spS : Tryd.prog.stoodInHeld 24 = false := by kernel_rfl
theorem spU : Tryd.prog.underlying 24 = some (.struct (Tryd.prog.fieldsOf 24)) := by kernel_rfl
theorem run_equalIn_sp (w : World) (a : ByteArray) (b : Int) : (Op.equalIn 10000 24 (.agg #[.string a, .int .i64 b]) (.agg #[.string a, .int .i64 b])).run Tryd.prog w = .ok true w := by
  have u3 := Tryd.underlying3
  have a3 := Tryd.isAgg3
  have z3 := Tryd.sizeOf3
  have u9 := Tryd.underlying9
  have a9 := Tryd.isAgg9
  have z9 := Tryd.sizeOf9
  rw [show (10000 : Nat) = 9999 + 1 from rfl, run_equalIn_agg w 9999 24 _ _ spU spS]
  simp only [Program.fieldsOf, Tryd.underlying24]
  go_simp
set_option maxHeartbeats 4000000 in
theorem sameInts10_c (v u : Value) (L : List Int) (w : World) (h : RowI w v L) (h' : RowI w u L) (hn : L.length < 4611686018427387904) :
    Calls Tryd.prog 37 #[v, u] w fun e w' => e = .returned (.bool true) ∧ Below w.heap.size w w' := by
  obtain ⟨a1, c1, q1, _, _⟩ := h.form
  obtain ⟨a2, c2, q2, _, _⟩ := h'.form
  obtain ⟨n, hnn⟩ : ∃ n, n = L.length := ⟨_, rfl⟩
  have HN := hidK hnn
  have HV := hidK h
  have HU := hidK h'
  subst q1 q2
  rw [← hnn] at hn ⊢ HV HU
  clear h h' hnn
  go_enter Tryd.func37, Tryd.ntmps37
  go_wp2
  go_loopw [5] (fun i wx => ∃ k : Nat, i = .int .i64 k ∧ k ≤ n ∧ Below w.heap.size w wx) (fun i _ => n - (intOf i).toNat)
  case atStart => exact ⟨0, rfl, Nat.zero_le _, Below.refl _ _⟩
  case round =>
    obtain ⟨k, rfl, hkn, hB⟩ := hrel
    by_cases hk : k < n
    · have kI : (k : Int) < (n : Int) := by omega
      have k0 : (0 : Int) ≤ (k : Int) := by omega
      have kw : IntKind.i64.wrap ((k : Int) + 1) = (k : Int) + 1 := by rw [IntKind.wrap_i64]; omega
      have hkl : k < L.length := by have := HN.out; omega
      obtain ⟨y, hy⟩ : ∃ x, L[k]? = some x := ⟨_, List.getElem?_eq_getElem hkl⟩
      obtain ⟨b1, o1, p1, e1, d0⟩ := (HV.out.on hB).nm hy
      obtain ⟨b2, o2, p2, e2, f0⟩ := (HU.out.on hB).nm hy
      injection e1 with e1 e1b e1c
      injection e2 with e2 e2b e2c
      subst e1 e2
      clear hy hkl e1b e1c e2b e2c HV HU
      go_wp2_with fail
      go_quiet (fail)
      have hB3 := below_drewY hB nq
      go_wp2
      go_roundw
      case rel => exact ⟨k + 1, by go_num, by omega, hB3⟩
      case measure => simp [intOf]; omega
    · obtain rfl : k = n := by omega
      clear HV HU
      go_wp2
      go_ret
      exact ⟨rfl, hB⟩
set_option maxHeartbeats 4000000 in
theorem sameSpecs10_c (v u : Value) (L : List (ByteArray × Int)) (w : World) (h : RowG enL w v L) (h' : RowG enL w u L) (hn : L.length < 4611686018427387904) :
    Calls Tryd.prog 16 #[v, u] w fun e w' => e = .returned (.bool true) ∧ Below w.heap.size w w' := by
  obtain ⟨a1, c1, q1, _, _⟩ := h.form
  obtain ⟨a2, c2, q2, _, _⟩ := h'.form
  obtain ⟨n, hnn⟩ : ∃ n, n = L.length := ⟨_, rfl⟩
  have HN := hidK hnn
  have HV := hidK h
  have HU := hidK h'
  subst q1 q2
  rw [← hnn] at hn ⊢ HV HU
  clear h h' hnn
  go_enter Tryd.func16, Tryd.ntmps16
  go_wp2
  go_loopw [5] (fun i wx => ∃ k : Nat, i = .int .i64 k ∧ k ≤ n ∧ Below w.heap.size w wx) (fun i _ => n - (intOf i).toNat)
  case atStart => exact ⟨0, rfl, Nat.zero_le _, Below.refl _ _⟩
  case round =>
    obtain ⟨k, rfl, hkn, hB⟩ := hrel
    by_cases hk : k < n
    · have kI : (k : Int) < (n : Int) := by omega
      have k0 : (0 : Int) ≤ (k : Int) := by omega
      have kw : IntKind.i64.wrap ((k : Int) + 1) = (k : Int) + 1 := by rw [IntKind.wrap_i64]; omega
      have hkl : k < L.length := by have := HN.out; omega
      obtain ⟨⟨p, q⟩, hy⟩ : ∃ x, L[k]? = some x := ⟨_, List.getElem?_eq_getElem hkl⟩
      obtain ⟨b1, o1, p1, e1, d0, d1⟩ := (HV.out.on hB).en hy
      obtain ⟨b2, o2, p2, e2, f0, f1⟩ := (HU.out.on hB).en hy
      injection e1 with e1 e1b e1c
      injection e2 with e2 e2b e2c
      subst e1 e2
      simp only at d0 d1 f0 f1
      have hE := fun W => run_equalIn_sp W p q
      clear hy hkl e1b e1c e2b e2c HV HU
      go_wp2_with fail
      go_quiet (fail)
      have hB3 := below_drewY hB nq
      go_wp2
      go_roundw
      case rel => exact ⟨k + 1, by go_num, by omega, hB3⟩
      case measure => simp [intOf]; omega
    · obtain rfl : k = n := by omega
      clear HV HU
      go_wp2
      go_ret
      exact ⟨rfl, hB⟩

theorem sp_next {S : List Sp} {j : Nat} {x : Sp} (h : S[j]? = some x) : S.take (j + 1) = S.take j ++ [x] := by
  rw [List.take_add_one, h]
  rfl
set_option maxHeartbeats 4000000 in
theorem twinSpecs_c (v : Value) (S : List Sp) (w : World) (hv : RowG enL w v S) (hn : S.length ≤ 1099999) :
    Calls Tryd.prog 13 #[v] w fun e w' => ∃ u, e = .returned u ∧ OwnF (fun b => w.heap.size ≤ b) enL 2 24 w' u S ∧ Below w.heap.size w w' := by
  obtain ⟨a1, c1, q1, hcap, hmx⟩ := hv.form
  obtain ⟨n, hnn⟩ : ∃ n, n = S.length := ⟨_, rfl⟩
  rw [← hnn] at q1 hcap hn
  subst q1
  have HN := hidK hnn
  have HV : Hid (∀ W, Below w.heap.size w W → RowG enL W (.slice a1 n c1) S) := fun W hb => hv.on hb
  clear hv hnn
  go_enter Tryd.func13, Tryd.ntmps13
  go_wp2
  go_loopw [3, 4] (fun o i wx => ∃ j : Nat, i = .int .i64 j ∧ j ≤ n ∧ OwnF (fun b => w.heap.size ≤ b) enL 2 24 wx o (S.take j) ∧ Below w.heap.size w wx) (fun _ i _ => n - (intOf i).toNat)
  case atStart => exact ⟨0, rfl, Nat.zero_le _, OwnF.nil, Below.refl _ _⟩
  case round =>
    obtain ⟨j, rfl, hjn, ho, hB⟩ := hrel
    obtain ⟨wo, hwo⟩ : ∃ y, y = wr := ⟨_, rfl⟩
    subst hwo
    have HO := hidK ho
    have HB := hidK hB
    clear ho
    by_cases hj : j < n
    · have jI : (j : Int) < (n : Int) := by omega
      have j0 : (0 : Int) ≤ (j : Int) := by omega
      have jw : IntKind.i64.wrap ((j : Int) + 1) = (j : Int) + 1 := by rw [IntKind.wrap_i64]; omega
      obtain ⟨⟨nm, z⟩, hx⟩ : ∃ x, S[j]? = some x := ⟨_, List.getElem?_eq_getElem (by have := HN.out; omega)⟩
      obtain ⟨b1, o1, p1, e1, d0, d1⟩ := (HV.out wo hB).en hx
      injection e1 with e1 e1b e1c
      subst e1
      simp only at d0 d1
      have HNX := hidK (sp_next hx)
      have HSM : Hid (((S.take j).length + 1) * (24 + 1) ≤ 140737488355328) := by show _ ≤ _; rw [List.length_take]; omega
      have HF : Hid (∀ b, wo.heap.size ≤ b → w.heap.size ≤ b) := fun b hb => Nat.le_trans hB.size hb
      clear hx e1b e1c hB
      go_wp2_with (at_builtin; refine wpG_one (F := fun b => w.heap.size ≤ b) elSp rfl (.tmp 11) (.tmp 16) rfl u3 (S.take j) (nm, z) #[.string nm, .int .i64 z] rfl rfl rfl HO.out (enL_one _) HSM.out HF.out ?_; intro v9 w9 o9 k9 l9; have HO9 := hidK o9; have HK9 := hidK k9; clear o9 k9 l9)
      go_roundw
      case rel => exact ⟨j + 1, by go_num, by omega, by rw [HNX.out]; exact HO9.out, HB.out.trans (HK9.out.below (fun k hk => HO.out.2 k hk) HB.out.size)⟩
      case measure => simp [intOf]; omega
    · obtain rfl : j = n := by omega
      have HT : Hid (S.take j = S) := by show _ = _; rw [List.take_of_length_le]; rw [← HN.out]; exact Nat.le_refl _
      clear hB
      go_wp2
      go_ret
      exact ⟨u3, rfl, by rw [← HT.out]; exact HO.out, HB.out⟩
set_option maxHeartbeats 4000000 in
theorem sameLayout_c (va vb : Value) (tb tt : Int) (L : List Int) (w : World) (ha : RowI w va L) (hb : RowI w vb L) (hn : L.length < 4611686018427387904) :
    Calls Tryd.prog 15 #[.agg #[va, .int .i64 tb, .int .i64 tt], .agg #[vb, .int .i64 tb, .int .i64 tt]] w fun e w' => e = .returned (.bool true) ∧ Below w.heap.size w w' := by
  obtain ⟨aa, ca, ea, _, _⟩ := ha.form
  obtain ⟨ab, cb, eb, _, _⟩ := hb.form
  obtain ⟨n, hnn⟩ : ∃ n, n = L.length := ⟨_, rfl⟩
  rw [← hnn] at ea eb
  subst ea eb
  obtain ⟨W0, hW0⟩ : ∃ x, x = (w.alloc (.cells #[.slice aa n ca, .int .i64 tb, .int .i64 tt] 27)).alloc (.cells #[.slice ab n cb, .int .i64 tb, .int .i64 tt] 27) := ⟨_, rfl⟩
  have HB0 : Hid (Below w.heap.size w W0) := by rw [hW0]; exact bupK (bupK (Below.refl _ w) _) _
  have hx0 : W0.heap[w.heap.size]? = some (.cells #[.slice aa n ca, .int .i64 tb, .int .i64 tt] 27 (0, 0)) := by rw [hW0]; exact hupK (heap_alloc_new w _) _
  have hy0 : W0.heap[w.heap.size + 1]? = some (.cells #[.slice ab n cb, .int .i64 tb, .int .i64 tt] 27 (0, 0)) := by rw [hW0]; exact heap_new2K w _ _
  have x0 := cell_rowK hx0 0 _ rfl
  have y0 := cell_rowK hy0 0 _ rfl
  have HX0 := hidK hx0
  have HY0 := hidK hy0
  have HS := hidK (sameInts10_c _ _ L W0 (ha.on HB0.out) (hb.on HB0.out) hn)
  clear ha hb hn hx0 hy0 hnn
  go_enter Tryd.func15, Tryd.ntmps15
  go_upto_region 1 with fail
  rw [← hW0]
  clear hW0
  go_upto_region 2 with (go_at_call 37; refine HS.out.mono ?_; rintro e w1 ⟨rfl, hb1⟩; have HB1 := hidK hb1; clear hb1)
  clear x0 y0
  have hx1 := hkeepK HB1.out HX0.out
  have hy1 := hkeepK HB1.out HY0.out
  have x1 := cell_rowK hx1 1 _ rfl
  have x2 := cell_rowK hx1 2 _ rfl
  have y1 := cell_rowK hy1 1 _ rfl
  have y2 := cell_rowK hy1 2 _ rfl
  clear hx1 hy1
  go_wp2
  go_ret
  exact ⟨rfl, HB0.out.trans (HB1.out.mono HB0.out.size)⟩
end Go.Proofs.YtmlnnbinbbmmhaaDoor
