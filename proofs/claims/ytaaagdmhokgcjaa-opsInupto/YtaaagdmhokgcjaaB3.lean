
-- Normal, on both sides.
import Derived.Test.YtaaagdmhokgcjaaB2
namespace Go.Proofs.Ytaaagdmhokgcjaa
open Go.ChangeShapes Go.WideShapes Go.ChangeAt Go.RowKit
set_option linter.unusedVariables false
set_option maxRecDepth 100000
set_option linter.unusedSimpArgs false
theorem putG_flat {α : Type} (c : α → List Value) (z : Nat) (hc : ∀ x, (c x).length = z) (L : List α) (k : Nat) (x : α) (hk : k < L.length) : putG (L.flatMap c).toArray (k * z) (c x).toArray = ((L.set k x).flatMap c).toArray := by
  obtain ⟨p1, p2⟩ := flatG_put c z hc (L := L) (k := k) (n := L.length) (cap := L.length) (cur := (L.flatMap c).toArray) x hk (Nat.le_refl _) (by rw [List.size_toArray, flatG_len c z hc]) (by rw [List.toList_toArray, List.take_of_length_le (by rw [flatG_len c z hc]; exact Nat.le_refl _)]) rfl
  rw [List.take_of_length_le (by rw [Array.length_toList, p2]; exact Nat.le_refl _)] at p1
  rw [← p1, Array.toArray_toList]
theorem fitG {α : Type} {c : α → List Value} {z : Nat} (hc : ∀ x, (c x).length = z) {L : List α} {k : Nat} (hk : k < L.length) : Nat.ble (k * z + z) (L.flatMap c).toArray.size = true := by
  rw [List.size_toArray, flatG_len c z hc]
  have : (k + 1) * z ≤ L.length * z := Nat.mul_le_mul_right z hk
  rw [Nat.add_mul, Nat.one_mul] at this
  exact Nat.ble_eq_true_of_le this
theorem setTake {α : Type} {L : List α} {k : Nat} {x : α} (hk : k < L.length) : (L.set k x).take (k + 1) = L.take k ++ [x] := by
  have h : (L.set k x)[k]? = some x := by rw [List.getElem?_set_self hk]
  rw [takeSucc h, List.take_set_of_le (Nat.le_refl k)]
/-- what Normal makes of a member -/
def nrm (x : Mx) : Mx := ⟨0, 0, 0, 420, x.n, x.s, x.dt⟩
theorem new_rowS (w : World) (s : Nat) (hs : w.heap.size = s) (cs : Array Value) (t : TypeId) (l : List Value) (hl : cs.toList = l) : ∀ j u, l[j]? = some u → (w.alloc (.cells cs t)).cell? (Addr.add ⟨s, 0, none⟩ j) = some u := by
  subst hs; exact new_rowK w cs t l hl
theorem below_some {B g : Nat} {a b c : World} (h : Below B a b) (k : b.grownBy c (some g)) (hB : B ≤ g) (ha : B ≤ a.heap.size) : Below B a c :=
  h.trans ⟨k.os, k.tape, k.output, k.size, fun j hj => k.block j (Nat.lt_of_lt_of_le hj (Nat.le_trans ha h.size)) (fun e => by injection e with e; omega)⟩
theorem bupK2 {w w' : World} {B : Nat} (h : Below B w w') (o : Obj) (hB : B ≤ w.heap.size := by exact Nat.le_refl _) : Below B w (w'.alloc o) := h.alloc (Nat.le_trans hB h.size) o
set_option maxHeartbeats 4000000 in
theorem normal_c (v : Value) (L : List Mx) (w : World) (h : RowM w v L) (hn : L.length ≤ 16777216) :
    Calls Try.prog 13 #[v] w fun e w' => ∃ u, e = .returned u ∧ OwnM w.heap.size w' u (L.map nrm) ∧ Below w.heap.size w w' := by
  obtain ⟨a1, c1, q1, _, _⟩ := h.form
  have HMK := mk_memsR L.length (by omega)
  obtain ⟨n, hnn⟩ : ∃ n, n = L.length := ⟨_, rfl⟩
  have HN := hidK hnn
  have HV := hidK h
  subst q1
  rw [← hnn] at hn HMK ⊢ HV
  clear h hnn
  have HG1 := hidK (heap_alloc_new w (.cells ((List.replicate n zMx).flatMap mxL).toArray 32))
  have HB1 := hidK (bupK (Below.refl w.heap.size w) (.cells ((List.replicate n zMx).flatMap mxL).toArray 32))
  go_enter Try.func13, Try.ntmps13
  go_wp2
  go_loopw [11] (fun i wx => ∃ k : Nat, i = .int .i64 k ∧ k ≤ n ∧ (∃ R : List Mx, R.length = n ∧ R.take k = (L.take k).map nrm ∧ wx.heap[w.heap.size]? = some (.cells (R.flatMap mxL).toArray 32 (0, 0))) ∧ Below w.heap.size w wx) (fun i _ => n - (intOf i).toNat)
  case atStart => exact ⟨0, rfl, Nat.zero_le _, ⟨_, List.length_replicate, rfl, HG1.out⟩, HB1.out⟩
  case round =>
    clear HG1 HB1
    obtain ⟨k, rfl, hkn, ⟨R, hRn, hRk, hR⟩, hB⟩ := hrel
    have HRN := hidK hRn
    have HRK := hidK hRk
    have HR := hidK hR
    clear hRn hRk hR
    by_cases hk : k < n
    · have kI : (k : Int) < (n : Int) := by omega
      have k0 : (0 : Int) ≤ (k : Int) := by omega
      have hkl : k < L.length := by have := HN.out; omega
      obtain ⟨⟨dd, uu, gg, mm, nn, zz, dt⟩, hx⟩ : ∃ x, L[k]? = some x := ⟨_, List.getElem?_eq_getElem hkl⟩
      obtain ⟨b1, o1, p1, e1, d0, d1, d2, d3, d4, d5, d6⟩ := (HV.out.on hB).mx hx
      have HX := hidK hx
      injection e1 with e1 e1b e1c
      subst e1
      clear hx hkl e1b e1c HV
      have hkR : k < R.length := by have := HRN.out; omega
      have HKR := hidK hkR
      clear hkR
      go_wp2_with (refine wpList_store_row_G rfl rfl 32 (.tmp 27) (.tmp 26) rfl w.heap.size (k * 7) (.agg #[.int .i64 0, .int .i64 0, .int .i64 0, .int .i64 420, .string nn, .int .i64 zz, .string dt]) rfl rfl 32 (R.flatMap mxL).toArray ((R.set k (nrm ⟨dd, uu, gg, mm, nn, zz, dt⟩)).flatMap mxL).toArray (hupK HR.out _) (by kernel_rfl) (fitG mxL_len HKR.out) rfl (putG_flat mxL 7 mxL_len R k (nrm ⟨dd, uu, gg, mm, nn, zz, dt⟩) HKR.out) ?_; intro W3 hW3 hG3; have HW3 := hidK hW3; have HB3 := hidK (below_some (bupK2 hB _) hG3 (Nat.le_refl _) (Nat.le_refl _)); clear hW3 hG3)
      go_roundw
      case rel =>
        refine ⟨k + 1, by go_num, by omega, ⟨_, by rw [List.length_set]; exact HRN.out, ?_, HW3.out⟩, HB3.out⟩
        rw [setTake HKR.out, HRK.out, takeSucc HX.out, List.map_append]; rfl
      case measure => simp [intOf]; omega
    · obtain rfl : k = n := by omega
      have HF : Hid (OwnM w.heap.size wr (.slice (some ⟨w.heap.size, 0, none⟩) k k) (L.map nrm)) := by
        have e : R = L.map nrm := by
          have := HRK.out
          rw [List.take_of_length_le (by rw [HRN.out]; exact Nat.le_refl _), List.take_of_length_le (by have := HN.out; omega)] at this
          exact this
        have h2 := HR.out
        rw [e] at h2
        exact own_whole (by rw [List.length_map]; exact HN.out.symm) (Nat.le_refl _) (by unfold maxLen; omega) h2
      clear HV HR HRK HRN
      go_wp2
      go_ret
      exact ⟨_, rfl, HF.out, hB⟩
set_option maxHeartbeats 4000000 in
theorem rnormal_c (v : Value) (L : List Mx) (w : World) (h : RowM w v L) (hn : L.length ≤ 16777216) :
    Calls Try.prog 14 #[v] w fun e w' => ∃ u, e = .returned u ∧ OwnM w.heap.size w' u (L.map nrm) ∧ Below w.heap.size w w' := by
  obtain ⟨a1, c1, q1, _, _⟩ := h.form
  obtain ⟨i0, hi, hz0, hz1, hz2⟩ := info_parts infoMx
  obtain ⟨n, hnn⟩ : ∃ n, n = L.length := ⟨_, rfl⟩
  have HN := hidK hnn
  have HV := hidK h
  subst q1
  rw [← hnn] at hn ⊢ HV
  clear h hnn
  go_enter Try.func14, Try.ntmps14
  go_wp2
  go_loopw [3, 4] (fun o i wx => ∃ k : Nat, i = .int .i64 k ∧ k ≤ n ∧ OwnM w.heap.size wx o ((L.take k).map nrm) ∧ Below w.heap.size w wx) (fun _ i _ => n - (intOf i).toNat)
  case atStart => exact ⟨0, rfl, Nat.zero_le _, ⟨rfl, .inl ⟨rfl, rfl⟩⟩, Below.refl _ _⟩
  case round =>
    obtain ⟨k, rfl, hkn, ho, hB⟩ := hrel
    have HO := hidK ho
    clear ho
    by_cases hk : k < n
    · have kI : (k : Int) < (n : Int) := by omega
      have k0 : (0 : Int) ≤ (k : Int) := by omega
      have hkl : k < L.length := by have := HN.out; omega
      obtain ⟨⟨dd, uu, gg, mm, nn, zz, dt⟩, hx⟩ : ∃ x, L[k]? = some x := ⟨_, List.getElem?_eq_getElem hkl⟩
      obtain ⟨b1, o1, p1, e1, d0, d1, d2, d3, d4, d5, d6⟩ := (HV.out.on hB).mx hx
      have HX := hidK hx
      injection e1 with e1 e1b e1c
      subst e1
      clear hx hkl e1b e1c HV
      have HL : Hid (((L.take k).map nrm).length = k) := by show _ = _; rw [List.length_map]; exact lenTake (by have := HN.out; omega)
      have ho : (wr.alloc (.cells (mxL (nrm ⟨dd, uu, gg, mm, nn, zz, dt⟩)).toArray 32)).ownsRow w.heap.size 32 7 u3 k (((L.take k).map nrm).flatMap mxL) := by have := HO.out; unfold OwnM at this; rw [HL.out] at this; exact own_upK this _
      have hB1 := bupK2 hB (.cells (mxL (nrm ⟨dd, uu, gg, mm, nn, zz, dt⟩)).toArray 32)
      clear HO
      go_wp2_with (refine wpList_append_own _ rfl (.tmp 18) (.tmp 20) 22 rfl (w.heap.size) 32 i0 (.agg #[.int .i64 0, .int .i64 0, .int .i64 0, .int .i64 0, .string ⟨#[]⟩, .int .i64 0, .string ⟨#[]⟩]) 7 72 Try.underlying22 hi hz0 hz1 hz2 rfl (by decide) u3 k (((L.take k).map nrm).flatMap mxL) rfl (own_upK ho _) ⟨wr.heap.size + 1, 0, none⟩ 1 1 (mxL (nrm ⟨dd, uu, gg, mm, nn, zz, dt⟩)) rfl rfl (new_rowS (wr.alloc (.cells (mxL (nrm ⟨dd, uu, gg, mm, nn, zz, dt⟩)).toArray 32)) (wr.heap.size + 1) (by simp only [World.size_alloc]) (mxL (nrm ⟨dd, uu, gg, mm, nn, zz, dt⟩)).toArray 32 (mxL (nrm ⟨dd, uu, gg, mm, nn, zz, dt⟩)) rfl) (mxL_one (nrm ⟨dd, uu, gg, mm, nn, zz, dt⟩)) (by unfold maxLen; omega) (by omega) (by simp only [World.size_alloc]; have := (hB).size; omega) ?_; intro v2 w2 o2 g2 _; have HB2 := hidK (below_grow (bupK2 hB1 (.cells (mxL (nrm ⟨dd, uu, gg, mm, nn, zz, dt⟩)).toArray 32)) g2 (own_upK ho _) (Nat.le_refl _)); have HO2 := hidK o2; clear o2 g2 ho)
      go_roundw
      case rel =>
        refine ⟨k + 1, by go_num, by omega, ?_, HB2.out⟩
        rw [takeSucc HX.out, List.map_append]
        exact own_push HL.out.symm HO2.out
      case measure => simp [intOf]; omega
    · obtain rfl : k = n := by omega
      clear HV
      have HO2 := HO.out
      rw [List.take_of_length_le (by have := HN.out; omega)] at HO2
      have HO3 := hidK HO2
      clear HO HO2
      go_wp2
      go_ret
      exact ⟨_, rfl, HO3.out, hB⟩
end Go.Proofs.Ytaaagdmhokgcjaa
