
-- The document's Crash.
import Derived.Test.YtloljimabapicacGreatD6
namespace Go.Proofs.YtloljimabapicacGreat
open Go.RowKit
set_option linter.unusedVariables false
/-- A whole body written. -/
theorem RefAt.rebodied {F : Nat → Prop} {p : Nat} {st : St} {bv dv : Value} {dvs : List Value} {w : World} (h : RefAt F p st bv dv dvs w) {g cap : Nat} (hbv : bv = .slice (some ⟨g, 0, none⟩) st.bodies.length cap) (i : Nat) (b b' : Bd) (hi : st.bodies[i]? = some b)
    (hm : b'.date = b.date ∧ b'.uid = b.uid ∧ b'.gid = b.gid ∧ b'.mode = b.mode) :
    RefAt F p { st with bodies := st.bodies.set i b' } bv dv dvs ((((((w.setCell ⟨g, i * 6, none⟩ (.int .i64 b.date)).setCell ⟨g, i * 6 + 1, none⟩ (.int .i64 b.uid)).setCell ⟨g, i * 6 + 2, none⟩ (.int .i64 b.gid)).setCell ⟨g, i * 6 + 3, none⟩ (.int .i64 b.mode)).setCell ⟨g, i * 6 + 4, none⟩ (.string b'.data)).setCell ⟨g, i * 6 + 5, none⟩ (.int .i64 b'.safe)) ∧
      Kp F w ((((((w.setCell ⟨g, i * 6, none⟩ (.int .i64 b.date)).setCell ⟨g, i * 6 + 1, none⟩ (.int .i64 b.uid)).setCell ⟨g, i * 6 + 2, none⟩ (.int .i64 b.gid)).setCell ⟨g, i * 6 + 3, none⟩ (.int .i64 b.mode)).setCell ⟨g, i * 6 + 4, none⟩ (.string b'.data)).setCell ⟨g, i * 6 + 5, none⟩ (.int .i64 b'.safe)) := by
  have hself : st.bodies.set i b = st.bodies := by
    apply List.ext_getElem?
    intro k
    rw [List.getElem?_set]
    by_cases hk : i = k
    · subst hk
      have hl : i < st.bodies.length := by
        rcases Nat.lt_or_ge i st.bodies.length with h' | h'
        · exact h'
        · rw [List.getElem?_eq_none h'] at hi; cases hi
      rw [if_pos rfl, if_pos hl, hi]
    · rw [if_neg hk]
  have same : ∀ {w : World}, RefAt F p st bv dv dvs w → ∀ j v, j < 6 → [Value.int .i64 b.date, .int .i64 b.uid, .int .i64 b.gid, .int .i64 b.mode, .string b.data, .int .i64 b.safe] = [Value.int .i64 b.date, .int .i64 b.uid, .int .i64 b.gid, .int .i64 b.mode, .string b.data, .int .i64 b.safe].set j v →
      RefAt F p st bv dv dvs (w.setCell ⟨g, i * 6 + j, none⟩ v) ∧ Kp F w (w.setCell ⟨g, i * 6 + j, none⟩ v) := by
    intro w hr j v hj hv
    have := hr.poked hbv i b b j v hi hv hj
    rw [hself] at this
    exact this
  obtain ⟨r0, k0⟩ := same h 0 (.int .i64 b.date) (by decide) rfl
  obtain ⟨r1, k1⟩ := same r0 1 (.int .i64 b.uid) (by decide) rfl
  obtain ⟨r2, k2⟩ := same r1 2 (.int .i64 b.gid) (by decide) rfl
  obtain ⟨r3, k3⟩ := same r2 3 (.int .i64 b.mode) (by decide) rfl
  obtain ⟨r4, k4⟩ := r3.poked hbv i b { b with data := b'.data } 4 (.string b'.data) hi rfl (by decide)
  have hl : i < st.bodies.length := by
    rcases Nat.lt_or_ge i st.bodies.length with h' | h'
    · exact h'
    · rw [List.getElem?_eq_none h'] at hi; cases hi
  obtain ⟨r5, k5⟩ := r4.poked (by simpa using hbv) i { b with data := b'.data } b' 5 (.int .i64 b'.safe) (by simp [hl]) (by obtain ⟨m0, m1, m2, m3⟩ := hm; rw [m0, m1, m2, m3]; rfl) (by decide)
  simp only [List.set_set] at r5
  exact ⟨r5, ((((k0.trans k1).trans k2).trans k3).trans k4).trans k5⟩
set_option maxHeartbeats 4000000 in
theorem crash_c (F : Nat → Prop) (p : Nat) (st : St) (bv dv : Value) (dvs : List Value) (n : Int) (cv : Value) (cuts : List Int) (w : World) (h : RefAt F p st bv dv dvs w) (hw : Wf st) (hcut : RowI w cv cuts) (hcF : cuts ≠ [] → ∀ k, cv.ownBlock = some k → ¬ F k) (hcl : cuts.length ≤ 4194304) :
    Calls Tryz.prog 78 #[.pointer (some ⟨p, 0, none⟩), .int .i64 n, cv] w fun e w' => e = .returned (.tuple #[]) ∧ Did F p (st.crash n cuts) w w' := by
  have HP : Hid (Calls Tryz.prog 81 #[.pointer (some ⟨p, 0, none⟩)] w fun e w' => e = .returned (.int .i64 (st.dirs.length - 1 : Nat)) ∧ w' = w) := pending_c F p st bv dv dvs w h hw
  obtain ⟨m, hm, hml, hdm⟩ := cutDir_get hw n
  obtain ⟨pn, hpn⟩ : ∃ x, x = st.dirs.length - 1 := ⟨_, rfl⟩
  have HWI : Hid (∀ w, Calls Tryz.prog 82 #[.int .i64 n, .int .i64 0, .int .i64 pn] w fun e w' => e = .returned (.int .i64 m) ∧ w' = w) := fun w => by rw [← hm, hpn]; exact within_c n 0 _ w
  rw [← hpn] at HP
  obtain ⟨dl, hdl⟩ : ∃ x, x = st.dirs.length := ⟨_, rfl⟩
  have hlong := hw.long
  rw [← hdl] at hml hlong
  obtain ⟨v, hv, hdo, hvF⟩ := h.ent m _ hdm
  rcases h.drs.2 with ⟨_, h0⟩ | ⟨gd, capd, curd, hdv, _, _⟩
  · omega
  have e2 : w.cell? ⟨p, 2, none⟩ = some dv := by rw [Lib.cell_of_heap h.blk]; rfl
  have em : w.cell? ⟨gd, m, none⟩ = some v := by
    have := h.drs.cells (g := gd) (by rw [hdv]; rfl) m v hv
    rwa [add_lit0] at this
  rw [hdv, ← hdl] at e2
  obtain ⟨q, hq⟩ : ∃ q, q = st.cutDir n := ⟨_, rfl⟩
  rw [← hq] at hdo hdm
  obtain ⟨ao, cp, hvs⟩ := own_shape hdo
  obtain ⟨ql, hql⟩ : ∃ l, l = q.length := ⟨_, rfl⟩
  have HQL : Hid (ql = q.length) := hql
  rw [← hql] at hvs
  subst hvs
  have hq64 : ql ≤ 64 := by rw [hql]; exact hw.few q (List.mem_of_getElem? hdm)
  have HC : Hid (st.crash n cuts = { st with bodies := cutTo cuts q st.bodies ql, dirs := [q] }) := by show _ = _; unfold St.crash; rw [hql, hq]
  have HLED : Hid (∀ (k : Nat) (x : ByteArray) (y : Nat), q[k]? = some (x, y) → ∃ i, y = i + 1 ∧ i < st.bodies.length) := by
    intro k x y hk
    obtain ⟨h1, h2⟩ := hw.led q (List.mem_of_getElem? hdm) (x, y) (List.mem_of_getElem? hk)
    exact ⟨y - 1, by simp at h1; omega, by simp at h1 h2; omega⟩
  have HDV : Hid (∀ j, j < ql → ∃ g, ao = some ⟨g, 0, none⟩ ∧ F g ∧ g < w.heap.size) := by
    intro j hj
    rcases hdo.2 with ⟨h1, h0⟩ | ⟨g, cap, cur, h1, _, hh, _⟩
    · omega
    · cases h1; exact ⟨g, rfl, hvF g rfl, (Array.getElem?_eq_some_iff.1 hh).1⟩
  have HBO : Hid (∀ b ∈ st.bodies, b.data.size ≤ 1073741824 ∧ b.safe ≤ b.data.size) := hw.bod
  have HMA : Hid (st.bodies.length ≤ 2097152) := hw.many
  have HH : Hid (RefAt F p st bv dv dvs w) := h
  have HRI : Hid (RowI w cv cuts ∧ (cuts ≠ [] → ∀ k, cv.ownBlock = some k → ¬ F k)) := ⟨hcut, hcF⟩
  have HDO : Hid (DirO w 0 (.slice ao ql cp) q ∧ ∀ k, (Value.slice ao ql cp).ownBlock = some k → F k) := ⟨hdo, hvF⟩
  have HDM : Hid (st.dirs[m]? = some q) := hdm
  have HV : Hid (dvs[m]? = some (.slice ao ql cp)) := hv
  have i1 : (m : Int) < (dl : Int) := by omega
  have i2 : (0 : Int) ≤ (m : Int) := by omega
  clear h hw hcut hcF hm hdm hpn hdl hv hdo hvF hdv hq hql
  go_enter Tryz.func78, Tryz.ntmps78
  go_wp2_with (first
    | (go_at_call 81; refine HP.out.mono ?_; rintro e w1 ⟨rfl, hw1⟩; subst w1)
    | (go_at_call 82; refine (HWI.out _).mono ?_; rintro e w1 ⟨rfl, hw1⟩; subst w1))
  go_loopw [9] (fun i wr => ∃ k : Nat, i = .int .i64 k ∧ k ≤ ql ∧ RefAt F p { st with bodies := cutTo cuts q st.bodies k } bv dv dvs wr ∧ Kp F w wr ∧ wr.heap[w.heap.size]? = some (.cells #[.slice ao ql cp] 111)) (fun i _ => ql - (intOf i).toNat)
  case atStart => exact ⟨0, rfl, Nat.zero_le _, HH.out.below ((Below.refl _ w).alloc (Nat.le_refl _) _), Kp.of_below ((Below.refl _ w).alloc (Nat.le_refl _) _), heap_alloc_new w _⟩
  case round =>
    obtain ⟨k, rfl, hkm, hr, hkp, hbx0⟩ := hrel
    have hbx : wr.cell? ⟨w.heap.size, 0, none⟩ = some (.slice ao ql cp) := by rw [Lib.cell_of_heap hbx0]; rfl
    have HR : Hid (RefAt F p { st with bodies := cutTo cuts q st.bodies k } bv dv dvs wr) := hr
    have HKP : Hid (Kp F w wr) := hkp
    have HBX : Hid (wr.heap[w.heap.size]? = some (.cells #[.slice ao ql cp] 111)) := hbx0
    clear hr hkp hbx0
    by_cases hk : k < ql
    · obtain ⟨ge, rfl, _, _⟩ := HDV.out k hk
      have hge : q[k]? = some (q.getD k default) := getD_some q k (by rw [← HQL.out]; exact hk)
      obtain ⟨x, y, hxy⟩ : ∃ x y, q.getD k default = (x, y) := ⟨_, _, rfl⟩
      obtain ⟨u, hu1, hu2, hu3⟩ := HR.out.ent m q HDM.out
      rw [HV.out] at hu1
      cases hu1
      have hdv : DirV wr (.slice (some ⟨ge, 0, none⟩) ql cp) q := DirO.dirV hu2
      have hqc : wr.cell? ⟨ge, k * 2, none⟩ = some (.string (q.getD k default).1) ∧ wr.cell? ⟨ge, k * 2 + 1, none⟩ = some (.int .i64 (q.getD k default).2) := by
        rcases hdv with ⟨h0, _⟩ | ⟨g', cap', hv', hc'⟩
        · rw [HQL.out, h0] at hk; simp at hk
        · cases hv'; exact hc' k (by rw [← HQL.out]; exact hk)
      rw [hxy] at hqc hge
      obtain ⟨c0, c1⟩ := hqc
      obtain ⟨i, rfl, hil⟩ := HLED.out k x y hge
      obtain ⟨b, hb⟩ : ∃ b, (cutTo cuts q st.bodies k)[i]? = some b := ⟨_, List.getElem?_eq_getElem (by rw [cutTo_len]; exact hil)⟩
      obtain ⟨g, cap, hbv, hil2, q0, q1, q2, q3, q4, q5⟩ := HR.out.body i b hb
      have hbb := cutTo_bod cuts q st.bodies k HBO.out b (List.mem_of_getElem? hb)
      have e1 : wr.cell? ⟨p, 1, none⟩ = some bv := by rw [Lib.cell_of_heap HR.out.blk]; rfl
      have hmany := HMA.out
      have HBV : Hid (bv = .slice (some ⟨g, 0, none⟩) (cutTo cuts q st.bodies k).length cap ∧ (cutTo cuts q st.bodies k)[i]? = some b) := ⟨hbv, hb⟩
      have HST : Hid (cutTo cuts q st.bodies (k + 1) = (cutTo cuts q st.bodies k).set i (cutB cuts k b)) := by
        show _ = _
        simp only [cutTo, hge]
        rw [show i + 1 - 1 = i by omega, hb]
      obtain ⟨nb, hnb⟩ : ∃ n, n = (cutTo cuts q st.bodies k).length := ⟨_, rfl⟩
      have hnb2 := hnb
      rw [cutTo_len] at hnb2
      rw [← hnb] at hbv hil2
      rw [← hnb2] at hmany
      rw [hbv] at e1
      have HCU : Hid (∀ wx, Below wr.heap.size wr wx → Calls Tryz.prog 83 #[cv, .int .i64 k, .int .i64 ((b.data.size : Int) - (b.safe : Int))] wx fun e w' => e = .returned (.int .i64 (cutOf cuts k (b.data.size - b.safe))) ∧ w' = wx) := fun wx hwx => by
        have := cut_c cv cuts k (b.data.size - b.safe) wx ((HRI.out.1.kept HKP.out HRI.out.2).kept (Kp.of_below (F := F) hwx) HRI.out.2) hcl (by omega) (by omega)
        rw [show ((b.data.size - b.safe : Nat) : Int) = (b.data.size : Int) - (b.safe : Int) by omega] at this
        exact this
      have hcu := cutOf_le cuts k (b.data.size - b.safe)
      have HCB : Hid ((cutB cuts k b).data = b.data.extract 0 (b.safe + cutOf cuts k (b.data.size - b.safe)) ∧ (cutB cuts k b).safe = (b.data.extract 0 (b.safe + cutOf cuts k (b.data.size - b.safe))).size) := ⟨rfl, rfl⟩
      have hex : (b.data.extract 0 (b.safe + cutOf cuts k (b.data.size - b.safe))).size = b.safe + cutOf cuts k (b.data.size - b.safe) := by rw [ByteArray.size_extract]; omega
      obtain ⟨cu, hcueq⟩ : ∃ c, c = cutOf cuts k (b.data.size - b.safe) := ⟨_, rfl⟩
      rw [← hcueq] at HCU hcu HCB hex
      have b1 : decide ((k : Int) < (ql : Int)) = true := by simp; omega
      have i3 : (i : Int) < (nb : Int) := by omega
      have i4 : (0 : Int) ≤ (i : Int) := by omega
      have i5 : IntKind.i64.wrap (i : Int) = (i : Int) := wrap_i64 (by omega)
      have i6 : (b.safe : Int) + (cu : Int) ≤ (b.data.size : Int) := by omega
      have i7 : (0 : Int) ≤ (b.safe : Int) + (cu : Int) := by omega
      clear hge hxy hb hbv hnb hnb2 hu2 hu3 hdv hcueq
      go_wp2_with (go_at_call 83; refine (HCU.out _ ((Below.refl _ wr).alloc (Nat.le_refl _) _)).mono ?_; rintro e w1 ⟨rfl, hw1⟩; subst w1)
      obtain ⟨W, hW⟩ : ∃ W, W = wr.alloc (.cells #[.int .i64 b.date, .int .i64 b.uid, .int .i64 b.gid, .int .i64 b.mode, .string (b.data.extract 0 (b.safe + cu)), .int .i64 ((b.safe : Int) + (cu : Int))] 140) := ⟨_, rfl⟩
      have hbW : Below wr.heap.size wr W := by rw [hW]; exact (Below.refl _ wr).alloc (Nat.le_refl _) _
      have hxW : W.heap[wr.heap.size]? = some (.cells #[.int .i64 b.date, .int .i64 b.uid, .int .i64 b.gid, .int .i64 b.mode, .string (b.data.extract 0 (b.safe + cu)), .int .i64 ((b.safe : Int) + (cu : Int))] 140) := by rw [hW]; exact heap_alloc_new wr _
      have HSW : Hid (W.heap.size = wr.heap.size + 1) := by show _ = _; rw [hW]; simp
      rw [← hW]
      have rW := HR.out.below hbW
      have d1 := cell_below hbW e1
      have x0 : W.cell? ⟨wr.heap.size, 0, none⟩ = some (.int .i64 b.date) := by rw [Lib.cell_of_heap hxW]; rfl
      have x1 : W.cell? ⟨wr.heap.size, 1, none⟩ = some (.int .i64 b.uid) := by rw [Lib.cell_of_heap hxW]; rfl
      have x2 : W.cell? ⟨wr.heap.size, 2, none⟩ = some (.int .i64 b.gid) := by rw [Lib.cell_of_heap hxW]; rfl
      have x3 : W.cell? ⟨wr.heap.size, 3, none⟩ = some (.int .i64 b.mode) := by rw [Lib.cell_of_heap hxW]; rfl
      have x4 : W.cell? ⟨wr.heap.size, 4, none⟩ = some (.string (b.data.extract 0 (b.safe + cu))) := by rw [Lib.cell_of_heap hxW]; rfl
      have x5 : W.cell? ⟨wr.heap.size, 5, none⟩ = some (.int .i64 ((b.safe : Int) + (cu : Int))) := by rw [Lib.cell_of_heap hxW]; rfl
      have y0 := cell_below hbW q0
      have y1 := cell_below hbW q1
      have y2 := cell_below hbW q2
      have y3 := cell_below hbW q3
      have y4 := cell_below hbW q4
      have y5 := cell_below hbW q5
      obtain ⟨cur, hgb⟩ := own_typed rW.bod (show bv.ownBlock = some g by rw [HBV.out.1]; rfl)
      have f0 : W.frozen? ⟨g, i * 6, none⟩ = false := Lib.frozen_of_heap hgb _
      have f1 : W.frozen? ⟨g, i * 6 + 1, none⟩ = false := Lib.frozen_of_heap hgb _
      have f2 : W.frozen? ⟨g, i * 6 + 2, none⟩ = false := Lib.frozen_of_heap hgb _
      have f3 : W.frozen? ⟨g, i * 6 + 3, none⟩ = false := Lib.frozen_of_heap hgb _
      have f4 : W.frozen? ⟨g, i * 6 + 4, none⟩ = false := Lib.frozen_of_heap hgb _
      have f5 : W.frozen? ⟨g, i * 6 + 5, none⟩ = false := Lib.frozen_of_heap hgb _
      have HRW : Hid (RefAt F p { st with bodies := cutTo cuts q st.bodies k } bv dv dvs W) := rW
      have HKW : Hid (Kp F w W) := HKP.out.kept hbW
      have HBW : Hid (W.heap[w.heap.size]? = some (.cells #[.slice (some ⟨ge, 0, none⟩) ql cp] 111)) := by
        show _ = _
        rw [hbW.block _ (Array.getElem?_eq_some_iff.1 HBX.out).1]; exact HBX.out
      have HGN : Hid (w.heap.size ≠ g) := fun e' => by
        have h1 : W.heap[w.heap.size]? = some (.cells cur 140 (0, 0)) := by rw [e']; exact hgb
        rw [HBW.out] at h1; cases h1
      have HB' : Hid (cutB cuts k b = { b with data := b.data.extract 0 (b.safe + cu), safe := b.safe + cu }) := by
        have h1 := HCB.out.1
        have h2 := HCB.out.2
        rw [hex] at h2
        show _ = _
        unfold cutB at h1 h2 ⊢
        simp only at h1 h2 ⊢
        rw [h1] at h2 ⊢
        rw [h2]
      clear hW hbW hxW rW hgb q0 q1 q2 q3 q4 q5 e1 c0 c1 hbx
      go_region
      all_goals
        obtain ⟨R, kR⟩ := HRW.out.rebodied HBV.out.1 i b (cutB cuts k b) HBV.out.2 (by rw [HB'.out]; exact ⟨rfl, rfl, rfl, rfl⟩)
        rw [HB'.out] at R kR
        obtain ⟨W2, hW2⟩ : ∃ W2, W2 = (((((W.setCell ⟨g, i * 6, none⟩ (.int .i64 b.date)).setCell ⟨g, i * 6 + 1, none⟩ (.int .i64 b.uid)).setCell ⟨g, i * 6 + 2, none⟩ (.int .i64 b.gid)).setCell ⟨g, i * 6 + 3, none⟩ (.int .i64 b.mode)).setCell ⟨g, i * 6 + 4, none⟩ (.string (b.data.extract 0 (b.safe + cu)))).setCell ⟨g, i * 6 + 5, none⟩ (.int .i64 ((b.safe : Int) + (cu : Int))) := ⟨_, rfl⟩
        have hbox : W2.heap[w.heap.size]? = some (.cells #[.slice (some ⟨ge, 0, none⟩) ql cp] 111) := by
          rw [hW2]
          iterate 6 rw [Below.heap_setCell _ _ _ _ HGN.out]
          exact HBW.out
        rw [← hW2]
        have R2 : RefAt F p { st with bodies := cutTo cuts q st.bodies (k + 1) } bv dv dvs W2 := by
          rw [HST.out, HB'.out, hW2]; exact R
        have K2 : Kp F w W2 := HKW.out.trans (by rw [hW2]; exact kR)
        have HR2 : Hid (RefAt F p { st with bodies := cutTo cuts q st.bodies (k + 1) } bv dv dvs W2 ∧ Kp F w W2 ∧ W2.heap[w.heap.size]? = some (.cells #[.slice (some ⟨ge, 0, none⟩) ql cp] 111)) := ⟨R2, K2, hbox⟩
        clear R kR hW2 hbox R2 K2 x0 x1 x2 x3 x4 x5 y0 y1 y2 y3 y4 y5 f0 f1 f2 f3 f4 f5 d1
        go_wp2
        exact ⟨⟨k + 1, rfl, by omega, HR2.out.1.drew, HR2.out.2.1.drew, HR2.out.2.2⟩, by simp [intOf]; omega⟩
    · obtain rfl : k = ql := by omega
      have b1 : decide ((k : Int) < (k : Int)) = false := by simp
      obtain ⟨u, hu1, hu2, hu3⟩ := HR.out.ent m q HDM.out
      rw [HV.out] at hu1
      cases hu1
      have hlt : p < wr.heap.size := (Array.getElem?_eq_some_iff.1 HR.out.blk).1
      have hbk : (wr.alloc (.cells #[.slice ao k cp] 111)).heap[p]? = some (.cells #[.int .i64 st.cap, bv, dv] 144 (0, 0)) := by rw [Lib.alloc_old _ _ p hlt]; exact HR.out.blk
      have c2 : (wr.alloc (.cells #[.slice ao k cp] 111)).cell? ⟨p, 2, none⟩ = some dv := by rw [Lib.cell_of_heap hbk]; rfl
      have f2 : (wr.alloc (.cells #[.slice ao k cp] 111)).frozen? ⟨p, 2, none⟩ = false := Lib.frozen_of_heap hbk 2
      have R := HR.out.oneDir hu2 hu3
      have HRR : Hid (Did F p (st.crash n cuts) w ((wr.alloc (.cells #[.slice ao k cp] 111)).setCell ⟨p, 2, none⟩ (.slice (some ⟨wr.heap.size, 0, none⟩) 1 1))) := by
        refine Did.then (Did.of_kept HR.out HKP.out) ?_
        obtain ⟨R1, R2⟩ := R
        rw [HC.out]
        have hsz := R2.size
        refine ⟨⟨_, _, _, R1.mono fun k' hk' => ?_⟩, ⟨R2.os, R2.tape, R2.output, R2.size, fun k' h1 h2 => R2.block k' h1 (fun h3 => h2 (.inl h3))⟩⟩
        rcases hk' with h' | h'
        · exact .inl (.inl h')
        · exact .inr h'
      clear R hu2 hu3 hbk
      go_wp2
      go_end0
      have hD := HRR.out
      rw [World.setCell_alloc_past _ p 2 _ hlt] at hD
      exact ⟨rfl, hD⟩
end Go.Proofs.YtloljimabapicacGreat
