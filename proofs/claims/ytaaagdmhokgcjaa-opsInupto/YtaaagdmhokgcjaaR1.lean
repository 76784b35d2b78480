
-- The document's ahead, nth, Select.
import Derived.Test.YtaaagdmhokgcjaaB2
import Derived.Test.YtaaagdmhokgcjaaPN
namespace Go.Proofs.Ytaaagdmhokgcjaa
open Go.ChangeShapes Go.WideShapes Go.ChangeAt Go.RowKit
set_option linter.unusedVariables false
set_option maxRecDepth 100000
set_option linter.unusedSimpArgs false
abbrev nms (L : List Mx) : List ByteArray := L.map Mx.n
theorem nms_get {L : List Mx} {k : Nat} {x : Mx} (h : L[k]? = some x) : (nms L)[k]? = some x.n := by rw [List.getElem?_map, h]; rfl
set_option maxHeartbeats 4000000 in
theorem ahead_c (v : Value) (Q : List ByteArray) (m : Nat) (q : ByteArray) (w : World) (h : RowT w v Q) (hm : m ≤ Q.length) (hn : Q.length ≤ 16777216) :
    Calls Try.prog 33 #[v, .int .i64 m, .string q] w fun e w' => e = .returned (.int .i64 (cnt (Q.take m) q : Nat)) ∧ Below w.heap.size w w' := by
  obtain ⟨a1, c1, q1, _, _⟩ := h.form
  obtain ⟨n, hnn⟩ : ∃ n, n = Q.length := ⟨_, rfl⟩
  have HN := hidK hnn
  have HV := hidK h
  subst q1
  rw [← hnn] at hn hm ⊢ HV
  clear h hnn
  go_enter Try.func33, Try.ntmps33
  go_wp2
  go_loopw [7, 8] (fun c i wx => ∃ k z : Nat, i = .int .i64 k ∧ c = .int .i64 z ∧ k ≤ m ∧ z = cnt (Q.take k) q ∧ Below w.heap.size w wx) (fun _ i _ => m - (intOf i).toNat)
  case atStart => exact ⟨0, 0, rfl, rfl, Nat.zero_le _, rfl, Below.refl _ _⟩
  case round =>
    obtain ⟨k, z, rfl, rfl, hkn, hz, hB⟩ := hrel
    have hzk : z ≤ k := by rw [hz]; exact Nat.le_trans (cnt_le _ _) (by rw [List.length_take]; omega)
    have HZ := hidK hz
    clear hz
    by_cases hk : k < m
    · have kI : (k : Int) < (m : Int) := by omega
      have k0 : (0 : Int) ≤ (k : Int) := by omega
      have kN : (k : Int) < (n : Int) := by omega
      have kn : k < n := by omega
      have hkl : k < Q.length := by have := HN.out; omega
      obtain ⟨x, hx⟩ : ∃ x, Q[k]? = some x := ⟨_, List.getElem?_eq_getElem hkl⟩
      obtain ⟨b1, o1, p1, e1, d0⟩ := (HV.out.on hB).tx hx
      have HX := hidK hx
      injection e1 with e1 e1b e1c
      subst e1
      clear hx hkl e1b e1c HV
      by_cases hq : x = q
      · subst hq
        go_wp2
        go_roundw
        case rel => exact ⟨k + 1, z + 1, by go_num, by go_num, by omega, by rw [takeSnoc HX.out, cnt_snoc, if_pos rfl, HZ.out], hB⟩
        case measure => simp [intOf]; omega
      · have h1 := strNe hq
        have HQ := hidK hq
        clear hq
        go_wp2
        go_roundw
        case rel => exact ⟨k + 1, z, by go_num, rfl, by omega, by rw [takeSnoc HX.out, cnt_snoc, if_neg HQ.out, HZ.out, Nat.add_zero], hB⟩
        case measure => simp [intOf]; omega
    · obtain rfl : k = m := by omega
      clear HV
      go_wp2
      go_ret
      exact ⟨by rw [HZ.out]; rfl, hB⟩
set_option maxHeartbeats 4000000 in
theorem nth_c (v : Value) (L : List Mx) (q : ByteArray) (c : Nat) (w : World) (h : RowM w v L) (hc : c ≤ 16777216) (hn : L.length ≤ 16777216) :
    Calls Try.prog 34 #[v, .string q, .int .i64 c] w fun e w' => e = .returned (.int .i64 (nthI (nms L) q c)) ∧ Below w.heap.size w w' := by
  obtain ⟨a1, c1, q1, _, _⟩ := h.form
  obtain ⟨n, hnn⟩ : ∃ n, n = L.length := ⟨_, rfl⟩
  have HN := hidK hnn
  have HV := hidK h
  obtain ⟨R, hR⟩ : ∃ R, R = nthI (nms L) q c := ⟨_, rfl⟩
  have HR := hidK hR
  rw [← hR]
  subst q1
  rw [← hnn] at hn ⊢ HV
  clear h hnn hR
  go_enter Try.func34, Try.ntmps34
  go_wp2
  go_loopw [2, 7] (fun z i wx => ∃ k y : Nat, i = .int .i64 k ∧ z = .int .i64 y ∧ k ≤ n ∧ y ≤ 16777216 ∧ (nthO ((nms L).drop k) q y).map (· + k) = nthO (nms L) q c ∧ Below w.heap.size w wx) (fun _ i _ => n - (intOf i).toNat)
  case atStart => exact ⟨0, c, rfl, rfl, Nat.zero_le _, hc, by rw [List.drop_zero]; cases nthO (nms L) q c <;> rfl, Below.refl _ _⟩
  case round =>
    obtain ⟨k, y, rfl, rfl, hkn, hy, hz, hB⟩ := hrel
    have HZ := hidK hz
    clear hz
    by_cases hk : k < n
    · have kI : (k : Int) < (n : Int) := by omega
      have k0 : (0 : Int) ≤ (k : Int) := by omega
      have hkl : k < L.length := by have := HN.out; omega
      obtain ⟨⟨dd, uu, gg, mm, nn, zz, dt⟩, hx⟩ : ∃ x, L[k]? = some x := ⟨_, List.getElem?_eq_getElem hkl⟩
      obtain ⟨b1, o1, p1, e1, d0, d1, d2, d3, d4, d5, d6⟩ := (HV.out.on hB).mx hx
      have HD := hidK (dropCons (nms_get hx))
      simp only [] at d4
      injection e1 with e1 e1b e1c
      subst e1
      clear hx hkl e1b e1c HV d0 d1 d2 d3 d5 d6
      by_cases hq : nn = q
      · subst hq
        cases y with
        | zero =>
          have HE : Hid (R = (k : Int)) := by
            show _ = _
            have e := HZ.out
            rw [HD.out, nthO_hit rfl] at e
            have e2 : nthO (nms L) nn c = some k := by rw [← e]; simp
            rw [HR.out, nthI_some e2]
          clear HZ HR HD
          go_wp2
          go_ret
          exact ⟨by rw [HE.out]; rfl, hB⟩
        | succ y =>
          have hy0 : ¬ ((y : Int) + 1 = 0) := by omega
          have hy1 : ((y + 1 : Nat) : Int) = (y : Int) + 1 := by omega
          have HE : Hid ((nthO ((nms L).drop (k + 1)) nn y).map (· + (k + 1)) = nthO (nms L) nn c) := by
            show _ = _
            have e := HZ.out
            rw [HD.out, nthO_pass rfl, mapAdd] at e
            exact e
          clear HZ HR HD
          go_wp2
          go_roundw
          case rel => exact ⟨k + 1, y, by go_num, by go_num, by omega, by omega, HE.out, hB⟩
          case measure => simp [intOf]; omega
      · have h1 := strNe hq
        have HE : Hid ((nthO ((nms L).drop (k + 1)) q y).map (· + (k + 1)) = nthO (nms L) q c) := by
          show _ = _
          have e := HZ.out
          rw [HD.out, nthO_miss hq, mapAdd] at e
          exact e
        clear HZ HR HD hq
        go_wp2
        go_roundw
        case rel => exact ⟨k + 1, y, by go_num, rfl, by omega, hy, HE.out, hB⟩
        case measure => simp [intOf]; omega
    · obtain rfl : k = n := by omega
      have HE : Hid (R = -1) := by
        show _ = _
        have e := HZ.out
        rw [List.drop_eq_nil_of_le (by rw [List.length_map]; have := HN.out; omega)] at e
        rw [HR.out, nthI_none e.symm]
      clear HV HZ HR
      go_wp2
      go_ret
      exact ⟨by rw [HE.out]; rfl, hB⟩
end Go.Proofs.Ytaaagdmhokgcjaa
