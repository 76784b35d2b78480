
-- The document's calls that change a volume.
import Derived.Test.YtggnjgmjfenibaaGreatDoorD2
namespace Go.Proofs.YtggnjgmjfenibaaGreatDoor
open Go.RowKit
set_option linter.unusedVariables false
theorem RefAt.mono {F G : Nat → Prop} {p : Nat} {st : St} {bv dv : Value} {dvs : List Value} {w : World} (h : RefAt F p st bv dv dvs w) (hs : ∀ k, F k → G k) : RefAt G p st bv dv dvs w where
  fp := hs p h.fp
  blk := h.blk
  bod := h.bod
  bodF := fun k e => hs k (h.bodF k e)
  drs := h.drs
  drsF := fun k e => hs k (h.drsF k e)
  ent := fun i d hi => by
    obtain ⟨v, h1, h2, h3⟩ := h.ent i d hi
    exact ⟨v, h1, h2, fun k e => hs k (h3 k e)⟩
def RefSt (F : Nat → Prop) (p : Nat) (st : St) (w : World) : Prop := ∃ bv dv dvs, RefAt F p st bv dv dvs w
/-- What a call on the volume has done. -/
def Did (F : Nat → Prop) (p : Nat) (st : St) (w w' : World) : Prop := RefSt (ext F w w') p st w' ∧ Kp F w w'
theorem Did.then {F : Nat → Prop} {p : Nat} {st st' : St} {a b c : World} (h : Did F p st a b) (k : Did (ext F a b) p st' b c) : Did F p st' a c := by
  obtain ⟨⟨bv, dv, dvs, r⟩, k2⟩ := k
  have s1 := h.2.size
  have s2 := k2.size
  refine ⟨⟨bv, dv, dvs, r.mono fun k hk => ?_⟩, h.2.then k2⟩
  rcases hk with (hk | hk) | hk
  · exact .inl hk
  · exact .inr ⟨hk.1, by omega⟩
  · exact .inr ⟨by omega, hk.2⟩
/-- Nothing but new blocks ahead of a call. -/
theorem Did.after {F : Nat → Prop} {p : Nat} {st' : St} {a b c : World} (h : Below a.heap.size a b) (k : Did F p st' b c) : Did F p st' a c := by
  obtain ⟨⟨bv, dv, dvs, r⟩, k2⟩ := k
  have s1 := h.size
  have s2 := k2.size
  refine ⟨⟨bv, dv, dvs, r.mono fun k hk => ?_⟩, ⟨k2.os.trans h.os, k2.tape.trans h.tape, k2.output.trans h.output, Nat.le_trans s1 s2, fun i hi hF => (k2.block i (by omega) hF).trans (h.block i hi)⟩⟩
  rcases hk with hk | hk
  · exact .inl hk
  · exact .inr ⟨by omega, hk.2⟩
theorem Did.of_below {F : Nat → Prop} {p : Nat} {st : St} {bv dv : Value} {dvs : List Value} {w w' : World} (h : RefAt F p st bv dv dvs w) (hb : Below w.heap.size w w') : Did F p st w w' :=
  ⟨⟨bv, dv, dvs, (h.below hb).mono fun k hk => .inl hk⟩, Kp.of_below hb⟩
theorem RefAt.bodied {F : Nat → Prop} {p : Nat} {st : St} {bv dv : Value} {dvs : List Value} {w w2 : World} {o' : Obj} {v' : Value} {b : Bd} (h : RefAt F p st bv dv dvs w)
    (hown : w2.ownsRow 0 141 6 v' (st.bodies.length + 1) (bodV st.bodies ++ [.int .i64 b.date, .int .i64 b.uid, .int .i64 b.gid, .int .i64 b.mode, .string b.data, .int .i64 b.safe]))
    (hg : (w.alloc o').grownBy w2 bv.ownBlock) (hv' : v'.ownBlock = bv.ownBlock ∨ v'.ownBlock = some (w.alloc o').heap.size) :
    RefAt (ext F w (w2.setCell ⟨p, 1, none⟩ v')) p { st with bodies := st.bodies ++ [b] } v' dv dvs (w2.setCell ⟨p, 1, none⟩ v') ∧ Kp F w (w2.setCell ⟨p, 1, none⟩ v') := by
  have hp := (Array.getElem?_eq_some_iff.1 h.blk).1
  have hsz : w.heap.size + 1 ≤ w2.heap.size := by have := hg.size; simpa using this
  have hss : (w2.setCell ⟨p, 1, none⟩ v').heap.size = w2.heap.size := by simp [World.setCell]
  have old : ∀ k, k < w.heap.size → some k ≠ bv.ownBlock → w2.heap[k]? = w.heap[k]? := fun k hk hn => by
    rw [hg.block k (by simp; omega) hn, Lib.alloc_old _ _ k hk]
  have hpd : some p ≠ bv.ownBlock := fun e => by
    obtain ⟨cur, hc⟩ := own_typed h.bod e.symm
    exact typed_ne h.blk hc (by decide) rfl
  have set : ∀ k, k ≠ p → (w2.setCell ⟨p, 1, none⟩ v').heap[k]? = w2.heap[k]? := fun k hk => Below.heap_setCell _ _ _ _ hk
  have keep : ∀ k, k < w.heap.size → k ≠ p → some k ≠ bv.ownBlock → (w2.setCell ⟨p, 1, none⟩ v').heap[k]? = w.heap[k]? := fun k h1 h2 h3 => (set k h2).trans (old k h1 h3)
  have b2 : w2.heap[p]? = some (.cells #[.int .i64 st.cap, bv, dv] 109 (0, 0)) := (old p hp hpd).trans h.blk
  have keepO : ∀ {B n e size u xs}, w.ownsRow B e size u n xs → e ≠ 109 → e ≠ 141 → ∀ k, u.ownBlock = some k → (w2.setCell ⟨p, 1, none⟩ v').heap[k]? = w.heap[k]? := by
    intro B n e size u xs ho n1 n2 k hk
    obtain ⟨cur, hc⟩ := own_typed ho hk
    refine keep k (ho.lt k hk).2 (fun e' => ?_) (fun e' => ?_)
    · exact typed_ne hc h.blk n1 e'
    · obtain ⟨cur', hc'⟩ := own_typed h.bod e'.symm
      exact typed_ne hc hc' n2 rfl
  refine ⟨⟨.inl h.fp, ?_, ?_, ?_, own_keep h.drs (keepO h.drs (by decide) (by decide)), fun k e => .inl (h.drsF k e), ?_⟩, ?_⟩
  · rw [blk_set b2]; rfl
  · have e1 : bodV (st.bodies ++ [b]) = bodV st.bodies ++ [.int .i64 b.date, .int .i64 b.uid, .int .i64 b.gid, .int .i64 b.mode, .string b.data, .int .i64 b.safe] := by simp [bodV]
    rw [List.length_append, e1]
    refine own_keep hown fun k hk => set k fun e => ?_
    obtain ⟨cur, hc⟩ := own_typed hown hk
    exact typed_ne hc b2 (by decide) e
  · intro k hk
    rcases hv' with h' | h'
    · exact .inl (h.bodF k (h' ▸ hk))
    · refine .inr ⟨?_, by rw [hss]; exact (hown.lt k hk).2⟩
      rw [h'] at hk; cases hk; simp
  · intro i d' hi
    obtain ⟨u, h1, h2, h3⟩ := h.ent i d' hi
    exact ⟨u, h1, own_keep h2 (keepO h2 (by decide) (by decide)), fun k e => .inl (h3 k e)⟩
  · refine ⟨hg.os, hg.tape, hg.output, by rw [hss]; omega, fun k hk hF => keep k hk (fun e => hF (e ▸ h.fp)) (fun e => hF (h.bodF k e.symm))⟩
theorem six_new (w : World) (a b c d e f : Value) (t : TypeId) {n : Nat} (hn : w.heap.size = n) : ∀ j u, [a, b, c, d, e, f][j]? = some u → (w.alloc (.cells #[a, b, c, d, e, f] t)).cell? ((⟨n, 0, none⟩ : Addr).add j) = some u := by
  intro j u hj
  subst hn
  match j, hj with
  | 0, hj => simp at hj; subst hj; simp [Addr.add]
  | 1, hj => simp at hj; subst hj; simp [Addr.add]
  | 2, hj => simp at hj; subst hj; simp [Addr.add]
  | 3, hj => simp at hj; subst hj; simp [Addr.add]
  | 4, hj => simp at hj; subst hj; simp [Addr.add]
  | 5, hj => simp at hj; subst hj; simp [Addr.add]
set_option maxHeartbeats 2000000 in
theorem create_c (F : Nat → Prop) (p : Nat) (st : St) (name : ByteArray) (m0 m1 m2 m3 : Int) (w : World) (h : RefSt F p st w) (hw : Wf st) :
    Calls Tryz.prog 64 #[.pointer (some ⟨p, 0, none⟩), .string name, .agg #[.int .i64 m0, .int .i64 m1, .int .i64 m2, .int .i64 m3]] w fun e w' =>
      e = .returned (.tuple #[.int .i64 (st.create name m0 m1 m2 m3).1.1, .int .i64 (st.create name m0 m1 m2 m3).1.2]) ∧ Did F p (st.create name m0 m1 m2 m3).2 w w' := by
  obtain ⟨bv, dv, dvs, h⟩ := h
  obtain ⟨i0, hi, hz0, hz1, hz2⟩ := info_parts infoBody
  have HH : Hid (RefAt F p st bv dv dvs w) := h
  have HF : Hid (∀ w, Calls Tryz.prog 51 #[.string name] w fun e w' => e = .returned (.bool (okName name)) ∧ w' = w) := fun w => fileName_c name w
  have hbm : Below w.heap.size w (w.alloc (.cells #[.int .i64 m0, .int .i64 m1, .int .i64 m2, .int .i64 m3] 30)) := (Below.refl _ w).alloc (Nat.le_refl _) _
  rcases hok : okName name with _ | _
  · rw [hok] at HF
    have HC : Hid (st.create name m0 m1 m2 m3 = ((0, 32), st)) := by show _ = _; unfold St.create; rw [if_pos hok]
    clear h hw hok
    go_enter Tryz.func64, Tryz.ntmps64
    go_wp2_with (go_at_call 51; refine (HF.out _).mono ?_; rintro e w1 ⟨rfl, hw1⟩; subst w1)
    go_ret2
    rw [HC.out]
    exact ⟨rfl, Did.of_below HH.out hbm⟩
  · rw [hok] at HF
    have hnl := now_len hw
    obtain ⟨q, hq⟩ : ∃ q, q = st.now := ⟨_, rfl⟩
    have HQ : Hid (q = st.now) := hq
    rw [← hq] at hnl
    obtain ⟨ql, hql⟩ : ∃ l, l = q.length := ⟨_, rfl⟩
    have HQL : Hid (ql = q.length) := hql
    rw [← hql] at hnl
    have HN : Hid (∀ wx, Below w.heap.size w wx → Calls Tryz.prog 78 #[.pointer (some ⟨p, 0, none⟩)] wx fun e w' => (∃ ao cp, e = .returned (.agg #[.slice ao ql cp]) ∧ DirO w' 0 (.slice ao ql cp) q ∧ ∀ k, (Value.slice ao ql cp).ownBlock = some k → F k) ∧ Below wx.heap.size wx w') := fun wx hb => (now_c F p st bv dv dvs wx (h.below hb) hw).mono (by
      rintro e w' ⟨⟨v, rfl, hd, hF⟩, hb'⟩
      rw [← hq] at hd
      obtain ⟨ao, cp, rfl⟩ := own_shape hd
      rw [← hql] at hd hF ⊢
      exact ⟨⟨ao, cp, rfl, dir_below hd hb', hF⟩, hb'⟩)
    have HLD : Hid (∀ v wx, DirO wx 0 v q → Calls Tryz.prog 79 #[.agg #[v], .string name] wx fun e w' => e = .returned (.int .i64 (leads q name)) ∧ Below wx.heap.size wx w') := fun v wx hd => leads_c v q name wx hd.dirV (by omega)
    obtain ⟨l0, hl0⟩ : ∃ l, l = leads q name := ⟨_, rfl⟩
    rw [← hl0] at HLD
    have HL0 : Hid (l0 = leads q name) := hl0
    clear hl0 hq
    by_cases hfull : l0 = 0 ∧ 64 ≤ ql
    · have HC : Hid (st.create name m0 m1 m2 m3 = ((0, 33), st)) := by
        show _ = _
        unfold St.create
        rw [if_neg (by rw [hok]; decide), if_pos (by rw [← HQ.out, ← HL0.out, ← HQL.out]; exact hfull)]
      obtain ⟨rfl, h64⟩ := hfull
      have b1 : decide ((64 : Int) ≤ (ql : Int)) = true := by simp; omega
      clear h hw hok hql
      go_enter Tryz.func64, Tryz.ntmps64
      go_wp2_with (first
        | (go_at_call 51; refine (HF.out _).mono ?_; rintro e w1 ⟨rfl, hw1⟩; subst w1)
        | (go_at_call 78; refine (HN.out _ hbm).mono ?_; rintro e w1 ⟨⟨ao, cp, rfl, hd, hvF⟩, hb1⟩; have hb1' := hbm.trans (hb1.mono (by simp)))
        | (go_at_call 79; refine (HLD.out _ _ (World.ownsRow.alloc hd _)).mono ?_; rintro e w2 ⟨rfl, hb2⟩; have hs1 := hb1'.size; have hb2' := (hb1'.alloc hs1 (.cells #[.slice ao ql cp] 105)).trans (hb2.mono (by simp; omega)); have c9 := cell_below hb2 (show (w1.alloc (.cells #[.slice ao ql cp] 105)).cell? ⟨w1.heap.size, 0, none⟩ = some (.slice ao ql cp) by simp)))
      go_ret2
      rw [HC.out]
      exact ⟨rfl, Did.of_below HH.out hb2'⟩
    · have HC : Hid (st.create name m0 m1 m2 m3 = ((st.bodies.length + 1, 0), { st with bodies := st.bodies ++ [⟨m0, m1, m2, m3, ⟨#[]⟩, 0⟩], dirs := st.dirs ++ [with_ q name (st.bodies.length + 1)] })) := by
        show _ = _
        unfold St.create
        rw [if_neg (by rw [hok]; decide), if_neg (by rw [← HQ.out, ← HL0.out, ← HQL.out]; exact hfull), HQ.out]
      have hcl := hw.many
      obtain ⟨nb, hnb⟩ : ∃ n, n = st.bodies.length := ⟨_, rfl⟩
      have HNB : Hid (nb = st.bodies.length) := hnb
      rw [← hnb] at hcl
      have b1 : (((l0 : Int) == 0) = true ∧ decide ((64 : Int) ≤ (ql : Int)) = false) ∨ ((l0 : Int) == 0) = false := by
        by_cases h0 : l0 = 0
        · left; refine ⟨by simp [h0], ?_⟩; simp; omega
        · right; simp; omega
      have HWI : Hid (∀ v wx, DirO wx 0 v q → Calls Tryz.prog 81 #[.agg #[v], .string name, .int .i64 ((nb : Int) + 1)] wx fun e w' => (∃ v', e = .returned (.agg #[v']) ∧ DirO w' wx.heap.size v' (with_ q name (nb + 1))) ∧ Below wx.heap.size wx w') := fun v wx hd => with_c v q name (nb + 1) wx hd.dirV (by omega)
      have HWF : Hid (Wf st) := hw
      clear h hw hok hql hnb hfull
      rcases b1 with ⟨b1, b2⟩ | b1
      all_goals
        go_enter Tryz.func64, Tryz.ntmps64
        go_wp2_with (first
          | (go_at_call 51; refine (HF.out _).mono ?_; rintro e w1 ⟨rfl, hw1⟩; subst w1)
          | (go_at_call 78; refine (HN.out _ hbm).mono ?_; rintro e w1 ⟨⟨ao, cp, rfl, hd, hvF⟩, hb1⟩; have hb1' := hbm.trans (hb1.mono (by simp)))
          | (go_at_call 79; refine (HLD.out _ _ (World.ownsRow.alloc hd _)).mono ?_; rintro e w2 ⟨rfl, hb2⟩; have hs1 := hb1'.size; have hb2' := (hb1'.alloc hs1 (.cells #[.slice ao ql cp] 105)).trans (hb2.mono (by simp; omega)); have c9 := cell_below hb2 (show (w1.alloc (.cells #[.slice ao ql cp] 105)).cell? ⟨w1.heap.size, 0, none⟩ = some (.slice ao ql cp) by simp)))
      all_goals
        have h2 := HH.out.below hb2'
        have hbk : w2.heap[w.heap.size]? = some (.cells #[.int .i64 m0, .int .i64 m1, .int .i64 m2, .int .i64 m3] 30) := by
          rw [hb2.block w.heap.size (by simp; have := hb1.size; simp at this; omega), Lib.alloc_old _ _ w.heap.size (by have := hb1.size; simp at this; omega), hb1.block w.heap.size (by simp), heap_alloc_new]
        have hd2 : DirO w2 0 (.slice ao ql cp) q := dir_below (World.ownsRow.alloc hd _) hb2
        have hb9 : w2.heap[w1.heap.size]? = some (.cells #[.slice ao ql cp] 105) := by
          rw [hb2.block w1.heap.size (by simp), heap_alloc_new]
        have hs2 : w1.heap.size + 1 ≤ w2.heap.size := by have := hb2.size; simpa using this
        have hs0 : w.heap.size + 1 ≤ w1.heap.size := by have := hb1.size; simpa using this
        have e0 : w2.cell? ⟨w.heap.size, 0, none⟩ = some (.int .i64 m0) := by rw [Lib.cell_of_heap hbk]; rfl
        have e1 : w2.cell? ⟨w.heap.size, 1, none⟩ = some (.int .i64 m1) := by rw [Lib.cell_of_heap hbk]; rfl
        have e2 : w2.cell? ⟨w.heap.size, 2, none⟩ = some (.int .i64 m2) := by rw [Lib.cell_of_heap hbk]; rfl
        have e3 : w2.cell? ⟨w.heap.size, 3, none⟩ = some (.int .i64 m3) := by rw [Lib.cell_of_heap hbk]; rfl
        have c1 : w2.cell? ⟨p, 1, none⟩ = some bv := by rw [Lib.cell_of_heap h2.blk]; rfl
        have hlt : p < w2.heap.size := (Array.getElem?_eq_some_iff.1 h2.blk).1
        have HP : Hid (some p ≠ bv.ownBlock) := fun e => by
          obtain ⟨cur, hc⟩ := own_typed h2.bod e.symm
          exact typed_ne h2.blk hc (by decide) rfl
        have H2 : Hid (RefAt F p st bv dv dvs w2) := h2
        have hown2 := h2.bod
        rw [← HNB.out] at hown2
        have HO : Hid (w2.ownsRow 0 141 6 bv nb (bodV st.bodies)) := hown2
        have HVF : Hid (∀ k, (Value.slice ao ql cp).ownBlock = some k → F k) := hvF
        have H9 : Hid (w2.heap[w1.heap.size]? = some (.cells #[.slice ao ql cp] 105)) := hb9
        have HD2 : Hid (DirO w2 0 (.slice ao ql cp) q) := hd2
        have HBB : Hid (Below w.heap.size w w2) := hb2'
        clear h2 hbk hown2 hvF hb9 hd2 hd hb1 hb2 hb1' hb2' hbm c9
        go_region_law (refine step_append_at rfl (.tmp 34) (.tmp 37) 107 rfl 0 141 i0 (.agg #[.int .i64 0, .int .i64 0, .int .i64 0, .int .i64 0, .string ⟨#[]⟩, .int .i64 0]) 6 56 Tryz.underlying107 hi hz0 hz1 hz2 rfl (by decide) bv nb (bodV st.bodies) (by simp [Act.eval]) (by exact HO.out.alloc _) ⟨w2.heap.size, 0, none⟩ 1 1 [.int .i64 m0, .int .i64 m1, .int .i64 m2, .int .i64 m3, .string ⟨#[]⟩, .int .i64 0] (by simp [Act.eval]) rfl (six_new _ _ _ _ _ _ _ _ rfl) (by intro u hu; simp at hu; rcases hu with rfl | rfl | rfl | rfl | rfl | rfl <;> rfl) (by unfold maxLen; omega) (by omega) (Nat.zero_le _) ?_; intro v' w3 hown' hgrow hwh; obtain ⟨ao2, cap2, rfl⟩ := own_shape hown'; have hb2 : w3.heap[p]? = some (.cells #[.int .i64 st.cap, bv, dv] 109 (0, 0)) := ((hgrow.block p (by simp; omega) HP.out).trans (Lib.alloc_old _ _ p hlt)).trans H2.out.blk; have d1 : w3.cell? ⟨p, 1, none⟩ = some bv := (by rw [Lib.cell_of_heap hb2]; rfl); have f1 := Lib.frozen_of_heap hb2 1)
        all_goals
          have R := RefAt.bodied (b := ⟨m0, m1, m2, m3, ⟨#[]⟩, 0⟩) (o' := .cells #[.int .i64 m0, .int .i64 m1, .int .i64 m2, .int .i64 m3, .string ⟨#[]⟩, .int .i64 0] 141) H2.out (by rw [← HNB.out]; exact hown') ⟨hgrow.os, hgrow.tape, hgrow.output, hgrow.size, hgrow.block⟩ hwh
          have k1 : (w3.setCell ⟨p, 1, none⟩ (.slice ao2 (nb + 1) cap2)).cell? ⟨p, 1, none⟩ = some (.slice ao2 (nb + 1) cap2) := World.cell?_setCell_same _ _ _ d1
          have keepD : ∀ (k : Nat) (cur : Array Value) (t : TypeId), w2.heap[k]? = some (.cells cur t (0, 0)) → t ≠ 109 → t ≠ 141 → (w3.setCell ⟨p, 1, none⟩ (.slice ao2 (nb + 1) cap2)).heap[k]? = w2.heap[k]? := by
            intro k cur t hk n1 n2
            have hkl := (Array.getElem?_eq_some_iff.1 hk).1
            rw [Below.heap_setCell _ _ _ _ (fun e => typed_ne hk H2.out.blk n1 e)]
            rw [hgrow.block k (by simp; omega) (fun e => by
              obtain ⟨cur', hc'⟩ := own_typed H2.out.bod e.symm
              exact typed_ne hk hc' n2 rfl)]
            exact Lib.alloc_old _ _ k hkl
          have k9 : (w3.setCell ⟨p, 1, none⟩ (.slice ao2 (nb + 1) cap2)).cell? ⟨w1.heap.size, 0, none⟩ = some (.slice ao ql cp) := by
            rw [Lib.cell_of_heap ((keepD _ _ _ H9.out (by decide) (by decide)).trans H9.out)]; rfl
          have kd : DirO (w3.setCell ⟨p, 1, none⟩ (.slice ao2 (nb + 1) cap2)) 0 (.slice ao ql cp) q := own_keep HD2.out fun k hk => by
            obtain ⟨cur, hc⟩ := own_typed HD2.out hk
            exact keepD k cur _ hc (by decide) (by decide)
          obtain ⟨W3, hW3⟩ : ∃ W, W = w3.setCell ⟨p, 1, none⟩ (.slice ao2 (nb + 1) cap2) := ⟨_, rfl⟩
          rw [← hW3] at R k1 k9 kd ⊢
          clear hW3 keepD hgrow hown' hwh d1 f1 hb2
          have HR : Hid (RefAt (ext F w2 W3) p { st with bodies := st.bodies ++ [⟨m0, m1, m2, m3, ⟨#[]⟩, 0⟩] } (.slice ao2 (nb + 1) cap2) dv dvs W3 ∧ Kp F w2 W3) := R
          clear R
          go_wp2_with (go_at_call 81; refine (HWI.out _ _ kd).mono ?_; rintro e w4 ⟨⟨v4, rfl, hd4⟩, hb4⟩; obtain ⟨ao4, cp4, rfl⟩ := own_shape hd4)
          obtain ⟨r1, kp1⟩ := HR.out
          have hb5 : Below W3.heap.size W3 (w4.alloc (.cells #[.slice ao4 (with_ q name (nb + 1)).length cp4] 105)) := hb4.alloc hb4.size _
          have D1 : Did F p _ w2 W3 := ⟨⟨_, _, _, r1⟩, kp1⟩
          have D2 := Did.of_below r1 hb5
          have r5 := (r1.below hb5).mono (G := ext (ext F w2 W3) W3 (w4.alloc (.cells #[.slice ao4 (with_ q name (nb + 1)).length cp4] 105))) (fun k hk => .inl hk)
          have hd5 : DirO (w4.alloc (.cells #[.slice ao4 (with_ q name (nb + 1)).length cp4] 105)) W3.heap.size (.slice ao4 (with_ q name (nb + 1)).length cp4) (with_ q name (nb + 1)) := World.ownsRow.alloc hd4 _
          have hC := change_c _ p _ _ _ _ _ (with_ q name (nb + 1)) _ r5 HWF.out.long (own_mono hd5 (Nat.zero_le _)) (fun k hk => .inr (World.ownsRow.lt hd5 k hk))
          have HCC : Hid (Calls Tryz.prog 82 #[.pointer (some ⟨p, 0, none⟩), .agg #[.slice ao4 (with_ q name (nb + 1)).length cp4]] (w4.alloc (.cells #[.slice ao4 (with_ q name (nb + 1)).length cp4] 105)) fun e w' => e = .returned (.tuple #[]) ∧ Did F p (st.create name m0 m1 m2 m3).2 w w') := hC.mono (by
            rintro e w6 ⟨rfl, dv', rr, kk⟩
            refine ⟨rfl, Did.after HBB.out (D1.then (D2.then ?_))⟩
            rw [HC.out, ← HNB.out]
            exact ⟨⟨_, _, _, rr⟩, kk⟩)
          clear hC hd5 r5 D2 D1 hb5 r1 kp1 hd4 hb4 kd HR
          go_wp2_with (go_at_call 82; refine HCC.out.mono ?_; rintro e w6 ⟨rfl, hD⟩)
          go_ret2
          rw [HC.out] at hD ⊢
          rw [← HNB.out] at hD ⊢
          exact ⟨rfl, hD⟩
end Go.Proofs.YtggnjgmjfenibaaGreatDoor
