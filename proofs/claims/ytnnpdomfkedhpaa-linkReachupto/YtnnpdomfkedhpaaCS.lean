
-- catalogsOf.
import Derived.Test.YtnnpdomfkedhpaaMK
namespace Go.Proofs.Ytnnpdomfkedhpaa
open Go.ChangeShapes Go.WideShapes Go.ChangeAt Go.RowKit Go.MapKept
set_option linter.unusedVariables false
set_option maxRecDepth 100000
def zCv : Lv × Int × Value := (⟨.slice none 0 0, .slice none 0 0, .slice none 0 0, .slice none 0 0, .slice none 0 0⟩, 0, .map none)
theorem infoCv : (Try.prog.info? 69).map (fun i => (i.zero, i.size, i.bytes)) = some (some (.agg #[.slice none 0 0, .slice none 0 0, .slice none 0 0, .slice none 0 0, .slice none 0 0, .int .i64 0, .map none]), 7, 136) := by kernel_rfl
theorem mk_cats (n : Nat) (hn : n ≤ 67108864) (W : World) : (Instr.makeSlice 50 (.int .i64 n) (.int .i64 n)).run Try.prog W = .ok (.slice (some ⟨W.heap.size, 0, none⟩) n n) (W.alloc (.cells ((List.replicate n zCv).flatMap cvL).toArray 69)) := by
  obtain ⟨i0, hi, hz0, hz1, hz2⟩ := info_parts infoCv
  rw [run_make W 50 69 i0 _ Try.underlying50 hi hz0 .i64 .i64 n n (by omega) (by omega) (by rw [hz2]; omega) (by omega), hz1, Int.toNat_natCast, ← made_flat cvL 7 (by decide) cvL_len zCv n]
  rfl
theorem RowG.lv {w : World} {v : Value} {L : List Lv} {k : Nat} {x : Lv} (h : RowG lvL w v L) (hx : L[k]? = some x) : ∃ b off cap, v = .slice (some ⟨b, off, none⟩) L.length cap ∧ w.cell? ⟨b, off + k * 5, none⟩ = some x.e ∧ w.cell? ⟨b, off + k * 5 + 1, none⟩ = some x.a ∧ w.cell? ⟨b, off + k * 5 + 2, none⟩ = some x.n ∧ w.cell? ⟨b, off + k * 5 + 3, none⟩ = some x.f ∧ w.cell? ⟨b, off + k * 5 + 4, none⟩ = some x.g := by
  obtain ⟨b, off, cap, e, _, _, hc⟩ := RowG.at lvL_len h hx
  exact ⟨b, off, cap, e, hc 0 _ rfl, hc 1 _ rfl, hc 2 _ rfl, hc 3 _ rfl, hc 4 _ rfl⟩
/-- libraries in memory -/
structure LibsAt (F : Nat → Prop) (w : World) (v : Value) (lvs : List Lv) (Ls : List Lb) : Prop where
  row : RowN F lvL w v lvs
  len : lvs.length = Ls.length
  ea : ∀ (i : Nat) (x : Lv) (L : Lb), lvs[i]? = some x → Ls[i]? = some L → LibAt F w x.e x.a x.n x.f x.g L
theorem LibsAt.kp {F : Nat → Prop} {w w' : World} {v : Value} {lvs : List Lv} {Ls : List Lb} (h : LibsAt F w v lvs Ls) (hk : Kp F w w') : LibsAt F w' v lvs Ls := ⟨h.row.kp hk, h.len, fun i x L hx hL => (h.ea i x L hx hL).kp hk⟩
theorem LibsAt.weak {F G : Nat → Prop} {w : World} {v : Value} {lvs : List Lv} {Ls : List Lb} (h : LibsAt F w v lvs Ls) (hg : ∀ b, b < w.heap.size → G b → F b) : LibsAt G w v lvs Ls := ⟨h.row.weak hg (by decide) lvL_len, h.len, fun i x L hx hL => (h.ea i x L hx hL).weak hg⟩
/-- a catalog that was made -/
def CvOk (B : Nat) (W : World) (lvs : List Lv) (Ls : List Lb) (i : Nat) (x : Lv × Int × Value) : Prop :=
  ∃ b L, lvs[i]? = some x.1 ∧ x.2.1 = (i : Int) ∧ x.2.2 = .map (some b) ∧ Ls[i]? = some L ∧ B ≤ b ∧ MpN W b (plcF L.a 0)
set_option maxHeartbeats 4000000 in
theorem catalogs_c (v : Value) (lvs : List Lv) (Ls : List Lb) (w : World) (h : LibsAt (fun b => w.heap.size ≤ b) w v lvs Ls) (hn : Ls.length ≤ 67108864) (hA : ∀ L ∈ Ls, L.a.length < 4611686018427387904) :
    Calls Try.prog 12 #[v] w fun e w' => ∃ C : List (Lv × Int × Value), e = .returned (.slice (some ⟨w.heap.size, 0, none⟩) C.length C.length) ∧ C.length = Ls.length ∧ w'.heap[w.heap.size]? = some (.cells (C.flatMap cvL).toArray 69 (0, 0)) ∧ (∀ i x, C[i]? = some x → CvOk (w.heap.size + 1) w' lvs Ls i x) ∧ Below w.heap.size w w' := by
  obtain ⟨a1, c1, q1, _, _⟩ := h.row.row.form
  obtain ⟨n, hnn⟩ : ∃ n, n = lvs.length := ⟨_, rfl⟩
  have HN := hidK hnn
  have HV := hidK h
  have hl := h.len
  rw [← hnn] at q1 hl
  rw [← hl] at hn
  subst q1
  have HL := hidK hl
  have HA := hidK hA
  have HM := hidK (mk_cats n hn w)
  clear h hnn hl hA
  obtain ⟨Z, hZ⟩ : ∃ Z, Z = Obj.cells ((List.replicate n zCv).flatMap cvL).toArray 69 := ⟨_, rfl⟩
  rw [← hZ] at HM
  have hmk := HM.out
  have HZ0 : Hid ((w.alloc Z).heap[w.heap.size]? = some (.cells ((List.replicate n zCv).flatMap cvL).toArray 69 (0, 0))) := by show _ = _; rw [heap_alloc_new, hZ]
  have HBZ : Hid (Below w.heap.size w (w.alloc Z)) := (Below.refl _ w).alloc (Nat.le_refl _) Z
  have HSZ : Hid ((w.alloc Z).heap.size = w.heap.size + 1) := by show _ = _; simp
  clear HM hZ
  go_enter Try.func12, Try.ntmps12
  go_wp2
  go_loopw [11] (fun i wx => ∃ k : Nat, i = .int .i64 k ∧ k ≤ n ∧ (∃ R : List (Lv × Int × Value), R.length = n ∧ (∀ i x, i < k → R[i]? = some x → CvOk (w.heap.size + 1) wx lvs Ls i x) ∧ wx.heap[w.heap.size]? = some (.cells (R.flatMap cvL).toArray 69 (0, 0))) ∧ Below w.heap.size w wx) (fun i _ => n - (intOf i).toNat)
  case atStart => exact ⟨0, rfl, Nat.zero_le _, ⟨_, List.length_replicate, fun i x hi _ => absurd hi (Nat.not_lt_zero _), HZ0.out⟩, HBZ.out⟩
  case round =>
    obtain ⟨k, rfl, hkn, ⟨R, hRn, hRk, hR⟩, hB⟩ := hrel
    have HRN := hidK hRn
    have HRK := hidK hRk
    have HR := hidK hR
    have HB0 := hidK hB
    clear hRn hRk hR
    by_cases hk : k < n
    · have kI : (k : Int) < (n : Int) := by omega
      have k0 : (0 : Int) ≤ (k : Int) := by omega
      have kw : IntKind.i64.wrap ((k : Int) + 1) = (k : Int) + 1 := by rw [IntKind.wrap_i64]; omega
      obtain ⟨⟨xe, xa, xn, xf, xg⟩, hx⟩ : ∃ x, lvs[k]? = some x := ⟨_, List.getElem?_eq_getElem (by have := HN.out; omega)⟩
      obtain ⟨L, hL⟩ : ∃ L, Ls[k]? = some L := ⟨_, List.getElem?_eq_getElem (by have := HL.out; omega)⟩
      have hlib := HV.out.ea k _ L hx hL
      obtain ⟨a0, l0, c0, a1', l1, c1', a2, l2, c2, a3, l3, c3, a4, l4, c4, e0, e1, e2, e3, e4⟩ := hlib.slices
      simp only at e0 e1 e2 e3 e4
      subst e0 e1 e2 e3 e4
      obtain ⟨b1, o1, p1, ev, d0, d1, d2, d3, d4⟩ := (HV.out.row.row.on hB).lv hx
      injection ev with ev evb evc
      subst ev
      simp only at d0 d1 d2 d3 d4
      obtain ⟨E, hE⟩ : ∃ E, E = Obj.cells #[.slice a0 l0 c0, .slice a1' l1 c1', .slice a2 l2 c2, .slice a3 l3 c3, .slice a4 l4 c4] 45 := ⟨_, rfl⟩
      have bE : Below wr.heap.size wr (wr.alloc E) := (Below.refl _ wr).alloc (Nat.le_refl _) E
      have eE : (wr.alloc E).heap[wr.heap.size]? = some (.cells #[.slice a0 l0 c0, .slice a1' l1 c1', .slice a2 l2 c2, .slice a3 l3 c3, .slice a4 l4 c4] 45 (0, 0)) := by rw [heap_alloc_new, hE]
      obtain ⟨f0, f1, f2, f3, f4⟩ := lib_cells eE
      have HCA : Hid (Calls Try.prog 20 #[.agg #[.slice a0 l0 c0, .slice a1' l1 c1', .slice a2 l2 c2, .slice a3 l3 c3, .slice a4 l4 c4], .int .i64 k] (wr.alloc E) fun e w' => ∃ b, e = .returned (.agg #[.slice a0 l0 c0, .slice a1' l1 c1', .slice a2 l2 c2, .slice a3 l3 c3, .slice a4 l4 c4, .int .i64 k, .map (some b)]) ∧ (wr.heap.size ≤ b ∧ MpN w' b (plcF L.a 0)) ∧ Below wr.heap.size wr w') := (catalogOf_c a0 a1' a2 a3 a4 l0 l1 l2 l3 l4 c0 c1' c2 c3 c4 k L.a (wr.alloc E) ((hlib.a.row.on hB).on bE) (HA.out L (List.mem_of_getElem? hL))).mono (by
        rintro e w' ⟨b, rfl, q1, q2, q3⟩
        exact ⟨b, rfl, ⟨by simp at q1; omega, q2⟩, bel3K bE q3⟩)
      have HKR : Hid (k < R.length) := by have := HRN.out; show k < _; omega
      have HX := hidK hx
      have HLL := hidK hL
      clear hlib hx hL evb evc bE eE hB
      subst hE
      go_wp2_with (first
        | (go_at_call 20; refine HCA.out.mono ?_; rintro e w3 ⟨b, rfl, q1, q2⟩; have HQ := hidK q1; have HB3 := hidK q2; clear q1 q2)
        | (refine wpList_store_row_G rfl rfl 69 (.tmp 21) (.tmp 20) rfl w.heap.size (k * 7) (.agg #[.slice a0 l0 c0, .slice a1' l1 c1', .slice a2 l2 c2, .slice a3 l3 c3, .slice a4 l4 c4, .int .i64 k, .map (some b)]) rfl rfl 69 (R.flatMap cvL).toArray ((R.set k (⟨.slice a0 l0 c0, .slice a1' l1 c1', .slice a2 l2 c2, .slice a3 l3 c3, .slice a4 l4 c4⟩, (k : Int), .map (some b))).flatMap cvL).toArray (hkeepK HB3.out HR.out) (by kernel_rfl) (fitG cvL_len HKR.out) rfl (putG_flat cvL 7 cvL_len R k (⟨.slice a0 l0 c0, .slice a1' l1 c1', .slice a2 l2 c2, .slice a3 l3 c3, .slice a4 l4 c4⟩, (k : Int), .map (some b)) HKR.out) ?_; intro W4 hW4 hG4; have HW4 := hidK hW4; have HG4 := hidK hG4; clear hW4 hG4))
      go_roundw
      case rel =>
        have hsw : w.heap.size < wr.heap.size := (Array.getElem?_eq_some_iff.1 HR.out).1
        have hbm : ∀ (W : World) (bb : Nat) (A : List Int), MpN w3 bb (plcF A 0) → MpN W4 bb (plcF A 0) := fun W bb A hm => hm.keep (HG4.out.block bb hm.lt (fun e => by injection e with e; exact hm.ne_cells (hkeepK HB3.out HR.out) e))
        refine ⟨k + 1, by go_num, by omega, ⟨_, by rw [List.length_set]; exact HRN.out, fun i x hi hx => ?_, HW4.out⟩, below_some (HB0.out.trans (HB3.out.mono HB0.out.size)) HG4.out (Nat.le_refl _) (Nat.le_refl _)⟩
        by_cases hik : i = k
        · subst hik
          rw [List.getElem?_set_self HKR.out] at hx
          injection hx with hx
          subst hx
          exact ⟨b, L, HX.out, rfl, rfl, HLL.out, by have := HQ.out.1; omega, hbm W4 b L.a HQ.out.2⟩
        · rw [List.getElem?_set_ne (fun e => hik e.symm)] at hx
          obtain ⟨b', L', t1, t2, t3, t4, t5, t6⟩ := HRK.out i x (by omega) hx
          exact ⟨b', L', t1, t2, t3, t4, t5, hbm W4 b' L'.a (t6.on HB3.out)⟩
      case measure => simp [intOf]; omega
    · obtain rfl : k = n := by omega
      clear HV
      go_wp2
      go_ret
      refine ⟨R, by rw [HRN.out]; rfl, HRN.out.trans HL.out, HR.out, fun i x hx => HRK.out i x ?_ hx, HB0.out⟩
      have := (List.getElem?_eq_some_iff.1 hx).1
      have := HRN.out
      omega
end Go.Proofs.Ytnnpdomfkedhpaa
