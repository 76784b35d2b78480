
-- members, given: contracts.
import Derived.Test.YtaaagdmhokgcjaaPC
import Derived.Test.YtaaagdmhokgcjaaS2
namespace Go.Proofs.Ytaaagdmhokgcjaa
open Go.ChangeShapes Go.WideShapes Go.ChangeAt Go.RowKit
set_option linter.unusedVariables false
set_option maxRecDepth 100000
set_option linter.unusedSimpArgs false
set_option maxHeartbeats 4000000 in
theorem members_c (v : Value) (L : List Mx) (q : ByteArray) (w : World) (h : RowM w v L) (hn : L.length ≤ 16777216) :
    Calls Try.prog 11 #[v, .string q] w fun e w' => e = .returned (.int .i64 (cnt (nms L) q : Nat)) ∧ w' = w := by
  obtain ⟨a1, c1, q1, _, _⟩ := h.form
  obtain ⟨n, hnn⟩ : ∃ n, n = L.length := ⟨_, rfl⟩
  have HN := hidK hnn
  have HV := hidK h
  obtain ⟨R, hR⟩ : ∃ R : Nat, R = cnt (nms L) q := ⟨_, rfl⟩
  have HR := hidK hR
  rw [← hR]
  subst q1
  rw [← hnn] at hn ⊢ HV
  clear h hnn hR
  go_enter Try.func11, Try.ntmps11
  go_wp2
  go_loopw [5, 6] (fun c i wx => ∃ k z : Nat, i = .int .i64 k ∧ c = .int .i64 z ∧ k ≤ n ∧ z = cnt (nms (L.take k)) q ∧ wx = w) (fun _ i _ => n - (intOf i).toNat)
  case atStart => exact ⟨0, 0, rfl, rfl, Nat.zero_le _, rfl, rfl⟩
  case round =>
    obtain ⟨k, z, rfl, rfl, hkn, hz, rfl⟩ := hrel
    have hzk : z ≤ k := by rw [hz]; exact Nat.le_trans (cnt_le _ _) (by rw [List.length_map, List.length_take]; omega)
    have HZ := hidK hz
    clear hz
    by_cases hk : k < n
    · have kI : (k : Int) < (n : Int) := by omega
      have k0 : (0 : Int) ≤ (k : Int) := by omega
      have hkl : k < L.length := by have := HN.out; omega
      obtain ⟨⟨dd, uu, gg, mm, nn, zz, dt⟩, hx⟩ : ∃ x, L[k]? = some x := ⟨_, List.getElem?_eq_getElem hkl⟩
      obtain ⟨b1, o1, p1, e1, d0, d1, d2, d3, d4, d5, d6⟩ := HV.out.mx hx
      have HX := hidK hx
      simp only [] at d4
      injection e1 with e1 e1b e1c
      subst e1
      have HSN : Hid (∀ y, cnt (nms (L.take (k + 1))) y = cnt (nms (L.take k)) y + (if nn = y then 1 else 0)) := by
        intro y; rw [takeSnoc HX.out, nms_appC]; exact cnt_snoc _ _ _
      clear hx hkl e1b e1c HV d0 d1 d2 d3 d5 d6 HR
      by_cases hq : nn = q
      · subst hq
        go_wp2
        go_roundw
        case rel => exact ⟨k + 1, z + 1, by go_num, by go_num, by omega, by rw [HSN.out, if_pos rfl, HZ.out], trivial⟩
        case measure => simp [intOf]; omega
      · have h1 := strNe hq
        have HQ := hidK hq
        clear hq
        go_wp2
        go_roundw
        case rel => exact ⟨k + 1, z, by go_num, rfl, by omega, by rw [HSN.out, if_neg HQ.out, HZ.out, Nat.add_zero], trivial⟩
        case measure => simp [intOf]; omega
    · obtain rfl : k = n := by omega
      have HE : Hid (z = R) := by show _ = _; rw [HZ.out, HR.out, List.take_of_length_le (by have := HN.out; omega)]
      clear HV HZ HR
      go_wp2
      go_ret
      exact ⟨by rw [HE.out]; rfl, rfl⟩
/-- the beginning of a list -/
theorem row_take {w : World} {b off cap n k : Nat} {L : List Mx} (h : RowM w (.slice (some ⟨b, off, none⟩) n cap) L) (hn : L.length = n) (hk : k ≤ n) : RowM w (.slice (some ⟨b, off, none⟩) k cap) (L.take k) := by
  obtain ⟨ao, c1, e, h1, h2, h3, h4⟩ := h
  injection e with e1 e2 e3
  subst e1
  subst e3
  have l1 : (L.take k).length = k := lenTake (by omega)
  refine ⟨_, cap, by rw [l1], by rw [l1]; omega, h2, h3, fun hp => ?_⟩
  rw [l1] at hp
  obtain ⟨b', off', e', hc⟩ := h4 (by omega)
  refine ⟨b', off', e', fun j u hu => hc j u ?_⟩
  rw [← flatG_take mxL 7 mxL_len, List.getElem?_take] at hu
  split at hu
  · exact hu
  · cases hu
theorem row_takeT {w : World} {b off cap n k : Nat} {L : List ByteArray} (h : RowT w (.slice (some ⟨b, off, none⟩) n cap) L) (hn : L.length = n) (hk : k ≤ n) : RowT w (.slice (some ⟨b, off, none⟩) k cap) (L.take k) := by
  obtain ⟨ao, c1, e, h1, h2, h3, h4⟩ := h
  injection e with e1 e2 e3
  subst e1
  subst e3
  have l1 : (L.take k).length = k := lenTake (by omega)
  refine ⟨_, cap, by rw [l1], by rw [l1]; omega, h2, h3, fun hp => ?_⟩
  rw [l1] at hp
  obtain ⟨b', off', e', hc⟩ := h4 (by omega)
  refine ⟨b', off', e', fun j u hu => hc j u ?_⟩
  rw [← flatG_take txL 1 txL_len, List.getElem?_take] at hu
  split at hu
  · exact hu
  · cases hu
set_option maxHeartbeats 4000000 in
theorem given_c (v : Value) (Q : List ByteArray) (q : ByteArray) (w : World) (h : RowT w v Q) (hn : Q.length ≤ 16777216) :
    Calls Try.prog 10 #[v, .string q] w fun e w' => e = .returned (.int .i64 (cnt Q q : Nat)) ∧ w' = w := by
  obtain ⟨a1, c1, q1, _, _⟩ := h.form
  obtain ⟨n, hnn⟩ : ∃ n, n = Q.length := ⟨_, rfl⟩
  have HN := hidK hnn
  have HV := hidK h
  obtain ⟨R, hR⟩ : ∃ R : Nat, R = cnt Q q := ⟨_, rfl⟩
  have HR := hidK hR
  rw [← hR]
  subst q1
  rw [← hnn] at hn ⊢ HV
  clear h hnn hR
  go_enter Try.func10, Try.ntmps10
  go_wp2
  go_loopw [5, 6] (fun c i wx => ∃ k z : Nat, i = .int .i64 k ∧ c = .int .i64 z ∧ k ≤ n ∧ z = cnt (Q.take k) q ∧ wx = w) (fun _ i _ => n - (intOf i).toNat)
  case atStart => exact ⟨0, 0, rfl, rfl, Nat.zero_le _, rfl, rfl⟩
  case round =>
    obtain ⟨k, z, rfl, rfl, hkn, hz, rfl⟩ := hrel
    have hzk : z ≤ k := by rw [hz]; exact Nat.le_trans (cnt_le _ _) (by rw [List.length_take]; omega)
    have HZ := hidK hz
    clear hz
    by_cases hk : k < n
    · have kI : (k : Int) < (n : Int) := by omega
      have k0 : (0 : Int) ≤ (k : Int) := by omega
      have hkl : k < Q.length := by have := HN.out; omega
      obtain ⟨nn, hx⟩ : ∃ x, Q[k]? = some x := ⟨_, List.getElem?_eq_getElem hkl⟩
      obtain ⟨b1, o1, p1, e1, d4⟩ := HV.out.tx hx
      have HX := hidK hx
      injection e1 with e1 e1b e1c
      subst e1
      clear hx hkl e1b e1c HV HR
      by_cases hq : nn = q
      · subst hq
        go_wp2
        go_roundw
        case rel => exact ⟨k + 1, z + 1, by go_num, by go_num, by omega, by rw [takeSnoc HX.out, cnt_snoc, if_pos rfl, HZ.out], trivial⟩
        case measure => simp [intOf]; omega
      · have h1 := strNe hq
        have HQ := hidK hq
        clear hq
        go_wp2
        go_roundw
        case rel => exact ⟨k + 1, z, by go_num, rfl, by omega, by rw [takeSnoc HX.out, cnt_snoc, if_neg HQ.out, HZ.out, Nat.add_zero], trivial⟩
        case measure => simp [intOf]; omega
    · obtain rfl : k = n := by omega
      have HE : Hid (z = R) := by show _ = _; rw [HZ.out, HR.out, List.take_of_length_le (by have := HN.out; omega)]
      clear HV HZ HR
      go_wp2
      go_ret
      exact ⟨by rw [HE.out]; rfl, rfl⟩
end Go.Proofs.Ytaaagdmhokgcjaa
