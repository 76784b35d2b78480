
-- Delete, on both sides.
import Derived.Test.YtaaagdmhokgcjabD2
namespace Go.Proofs.Ytaaagdmhokgcjab
open Go.ChangeShapes Go.WideShapes Go.ChangeAt Go.RowKit
set_option linter.unusedVariables false
set_option maxRecDepth 100000
set_option linter.unusedSimpArgs false
def delX (L : List Mx) (Q : List ByteArray) : List Mx := match mis (nms L) Q Q.length with | [] => othersA L (fndN (nms L) Q Q.length) | _ :: _ => []
def delS (L : List Mx) (Q : List ByteArray) : ByteArray := match mis (nms L) Q Q.length with | [] => ⟨#[]⟩ | m :: _ => m
def delE (L : List Mx) (Q : List ByteArray) : Int := match mis (nms L) Q Q.length with | [] => 0 | _ :: _ => 130
set_option maxHeartbeats 8000000 in
theorem delete_c (v u : Value) (L : List Mx) (Q : List ByteArray) (w : World) (h : RowM w v L) (hu : RowT w u Q) (hl : L.length ≤ 16777216) (hq : Q.length ≤ 16777216) :
    Calls Try.prog 10 #[v, u] w fun e w' => ∃ x, e = .returned (.tuple #[x, .string (delS L Q), .int .i64 (delE L Q)]) ∧ OwnM w.heap.size w' x (delX L Q) ∧ Below w.heap.size w w' := by
  obtain ⟨a1, c1, q1, _, _⟩ := h.form
  obtain ⟨a2, c2, q2, _, _⟩ := hu.form
  have HV := hidK h
  have HU := hidK hu
  have HL := hidK hl
  have HQ := hidK hq
  obtain ⟨ds, hds⟩ : ∃ ds, ds = delS L Q := ⟨_, rfl⟩
  obtain ⟨de, hde⟩ : ∃ de, de = delE L Q := ⟨_, rfl⟩
  have HDS := hidK hds
  have HDE := hidK hde
  rw [← hds, ← hde]
  subst q1
  subst q2
  clear h hu hl hq hds hde
  go_enter Try.func10, Try.ntmps10
  go_upto_region 2 with (go_at_call 30; refine (select_c _ _ L Q _ HV.out HU.out HL.out HQ.out).mono ?_; rintro e w1 ⟨x, y, rfl, hx1, hy1, hb1⟩)
  have HX1 := hidK hx1.row
  have HB1 := hidK hb1
  obtain ⟨n, hnn⟩ : ∃ n, (mis (nms L) Q Q.length).length = n := ⟨_, rfl⟩
  have hnb : n ≤ 16777216 := by rw [← hnn]; exact Nat.le_trans (mis_len _ _ _) HQ.out
  cases hmi : mis (nms L) Q Q.length with
  | nil =>
    have HMI := hidK hmi
    rw [hmi] at hnn hy1
    obtain ⟨a3, c3, q3, _, _⟩ := hy1.row.form
    subst q3
    have e0 : ds = ⟨#[]⟩ := by rw [HDS.out]; unfold delS; rw [hmi]
    have e1 : de = 0 := by rw [HDE.out]; unfold delE; rw [hmi]
    subst e0
    subst e1
    rw [fnd_eq] at HX1
    simp only [List.length_nil] at *
    clear hx1 hy1 hb1 hmi hnn
    go_wp2_with (go_at_call 31; refine (without_c _ _ L (fndN (nms L) Q Q.length) _ (HV.out.on HB1.out) HX1.out HL.out (fun j hj => by have := fndN_lt hj; rwa [List.length_map] at this) (by have := fndN_len (nms L) Q Q.length; rwa [List.length_map] at this)).mono ?_; rintro e w2 ⟨z, rfl, ho2, hb2⟩)
    go_ret3
    refine ⟨_, rfl, ?_, bel3K HB1.out hb2⟩
    have e3 : delX L Q = othersA L (fndN (nms L) Q Q.length) := by unfold delX; rw [HMI.out]
    rw [e3]; exact ho2.le HB1.out.size
  | cons m r =>
    have HMI := hidK hmi
    rw [hmi] at hy1
    obtain ⟨b3, o3, c3, q3, hc3⟩ := hy1.row.tx (k := 0) (x := m) rfl
    rw [Nat.add_zero] at hc3
    have hn0 : 0 < n := by rw [← hnn, hmi]; simp
    have hn1 : (m :: r).length = n := by rw [← hnn, hmi]
    have hnI : (0 : Int) < (n : Int) := by omega
    rw [hn1] at q3
    subst q3
    have e0 : ds = m := by rw [HDS.out]; unfold delS; rw [hmi]
    have e1 : de = 130 := by rw [HDE.out]; unfold delE; rw [hmi]
    subst e0
    subst e1
    clear hx1 hy1 hmi hnn HX1 hn1
    go_wp2
    go_region
    go_wp2
    go_ret3
    refine ⟨_, rfl, ?_, hb1.drew⟩
    have e3 : delX L Q = [] := by unfold delX; rw [HMI.out]
    rw [e3]; exact ⟨rfl, .inl ⟨rfl, rfl⟩⟩
set_option maxHeartbeats 8000000 in
theorem rdelete_c (v u : Value) (L : List Mx) (Q : List ByteArray) (w : World) (h : RowM w v L) (hu : RowT w u Q) (hl : L.length ≤ 16777216) (hq : Q.length ≤ 16777216) :
    Calls Try.prog 16 #[v, u] w fun e w' => ∃ x, e = .returned (.tuple #[x, .string (delS L Q), .int .i64 (delE L Q)]) ∧ OwnM w.heap.size w' x (delX L Q) ∧ Below w.heap.size w w' := by
  obtain ⟨a1, c1, q1, _, _⟩ := h.form
  obtain ⟨a2, c2, q2, _, _⟩ := hu.form
  have HV := hidK h
  have HU := hidK hu
  have HL := hidK hl
  have HQ := hidK hq
  obtain ⟨ds, hds⟩ : ∃ ds, ds = delS L Q := ⟨_, rfl⟩
  obtain ⟨de, hde⟩ : ∃ de, de = delE L Q := ⟨_, rfl⟩
  have HDS := hidK hds
  have HDE := hidK hde
  rw [← hds, ← hde]
  subst q1
  subst q2
  clear h hu hl hq hds hde
  go_enter Try.func16, Try.ntmps16
  go_upto_region 2 with (go_at_call 37; refine (rselect_c _ _ L Q _ HV.out HU.out HL.out HQ.out).mono ?_; rintro e w1 ⟨x, y, rfl, hx1, hy1, hb1⟩)
  have HX1 := hidK hx1.row
  have HB1 := hidK hb1
  obtain ⟨n, hnn⟩ : ∃ n, (mis (nms L) Q Q.length).length = n := ⟨_, rfl⟩
  have hnb : n ≤ 16777216 := by rw [← hnn]; exact Nat.le_trans (mis_len _ _ _) HQ.out
  cases hmi : mis (nms L) Q Q.length with
  | nil =>
    have HMI := hidK hmi
    rw [hmi] at hnn hy1
    obtain ⟨a3, c3, q3, _, _⟩ := hy1.row.form
    subst q3
    have e0 : ds = ⟨#[]⟩ := by rw [HDS.out]; unfold delS; rw [hmi]
    have e1 : de = 0 := by rw [HDE.out]; unfold delE; rw [hmi]
    subst e0
    subst e1
    rw [fnd_eq] at HX1
    simp only [List.length_nil] at *
    clear hx1 hy1 hb1 hmi hnn
    go_wp2_with (go_at_call 38; refine (parted_c _ _ L (fndN (nms L) Q Q.length) _ (HV.out.on HB1.out) HX1.out HL.out (fun j hj => by have := fndN_lt hj; rwa [List.length_map] at this) (by have := fndN_len (nms L) Q Q.length; rw [List.length_map] at this; have := HL.out; omega)).mono ?_; rintro e w2 ⟨z0, z, rfl, _, ho2, hb2⟩)
    go_ret3
    refine ⟨_, rfl, ?_, bel3K HB1.out hb2⟩
    have e3 : delX L Q = othersA L (fndN (nms L) Q Q.length) := by unfold delX; rw [HMI.out]
    rw [e3]; exact ho2.le HB1.out.size
  | cons m r =>
    have HMI := hidK hmi
    rw [hmi] at hy1
    obtain ⟨b3, o3, c3, q3, hc3⟩ := hy1.row.tx (k := 0) (x := m) rfl
    rw [Nat.add_zero] at hc3
    have hn0 : 0 < n := by rw [← hnn, hmi]; simp
    have hn1 : (m :: r).length = n := by rw [← hnn, hmi]
    have hnI : (0 : Int) < (n : Int) := by omega
    rw [hn1] at q3
    subst q3
    have e0 : ds = m := by rw [HDS.out]; unfold delS; rw [hmi]
    have e1 : de = 130 := by rw [HDE.out]; unfold delE; rw [hmi]
    subst e0
    subst e1
    clear hx1 hy1 hmi hnn HX1 hn1
    go_wp2
    go_region
    go_wp2
    go_ret3
    refine ⟨_, rfl, ?_, hb1.drew⟩
    have e3 : delX L Q = [] := by unfold delX; rw [HMI.out]
    rw [e3]; exact ⟨rfl, .inl ⟨rfl, rfl⟩⟩
end Go.Proofs.Ytaaagdmhokgcjab
