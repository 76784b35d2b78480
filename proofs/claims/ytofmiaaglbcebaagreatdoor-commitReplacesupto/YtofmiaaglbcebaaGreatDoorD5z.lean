import Derived.Test.YtofmiaaglbcebaaGreatDoorD4z

-- The document's calls that change a volume, 2.
namespace Go.Proofs.YtofmiaaglbcebaaGreatDoor
open Go.RowKit
set_option linter.unusedVariables false
/-- One directory, new. -/
theorem RefAt.oneDir {F : Nat → Prop} {p : Nat} {st : St} {bv dv : Value} {dvs : List Value} {w : World} {v : Value} {d : Dr} (h : RefAt F p st bv dv dvs w) (hd : DirO w 0 v d) (hdF : ∀ k, v.ownBlock = some k → F k) :
    RefAt (ext F w ((w.alloc (.cells #[v] 105)).setCell ⟨p, 2, none⟩ (.slice (some ⟨w.heap.size, 0, none⟩) 1 1))) p { st with dirs := [d] } bv (.slice (some ⟨w.heap.size, 0, none⟩) 1 1) [v] ((w.alloc (.cells #[v] 105)).setCell ⟨p, 2, none⟩ (.slice (some ⟨w.heap.size, 0, none⟩) 1 1)) ∧
      Kp F w ((w.alloc (.cells #[v] 105)).setCell ⟨p, 2, none⟩ (.slice (some ⟨w.heap.size, 0, none⟩) 1 1)) := by
  have hp := (Array.getElem?_eq_some_iff.1 h.blk).1
  have hss : ((w.alloc (.cells #[v] 105)).setCell ⟨p, 2, none⟩ (.slice (some ⟨w.heap.size, 0, none⟩) 1 1)).heap.size = w.heap.size + 1 := by simp [World.setCell]
  have set : ∀ k, k ≠ p → ((w.alloc (.cells #[v] 105)).setCell ⟨p, 2, none⟩ (.slice (some ⟨w.heap.size, 0, none⟩) 1 1)).heap[k]? = (w.alloc (.cells #[v] 105)).heap[k]? := fun k hk => Below.heap_setCell _ _ _ _ hk
  have keep : ∀ k, k < w.heap.size → k ≠ p → ((w.alloc (.cells #[v] 105)).setCell ⟨p, 2, none⟩ (.slice (some ⟨w.heap.size, 0, none⟩) 1 1)).heap[k]? = w.heap[k]? := fun k h1 h2 => (set k h2).trans (Lib.alloc_old _ _ k h1)
  have keepO : ∀ {B n e size u xs}, w.ownsRow B e size u n xs → e ≠ 109 → ∀ k, u.ownBlock = some k → ((w.alloc (.cells #[v] 105)).setCell ⟨p, 2, none⟩ (.slice (some ⟨w.heap.size, 0, none⟩) 1 1)).heap[k]? = w.heap[k]? := by
    intro B n e size u xs ho n1 k hk
    obtain ⟨cur, hc⟩ := own_typed ho hk
    exact keep k (ho.lt k hk).2 (fun e' => typed_ne hc h.blk n1 e')
  refine ⟨⟨.inl h.fp, ?_, own_keep h.bod (keepO h.bod (by decide)), fun k e => .inl (h.bodF k e), ?_, ?_, ?_⟩, ?_⟩
  · rw [blk_set ((Lib.alloc_old w _ p hp).trans h.blk)]; rfl
  · refine own_keep (w := w.alloc (.cells #[v] 105)) ⟨rfl, .inr ⟨w.heap.size, 1, #[v], rfl, Nat.zero_le _, heap_alloc_new w _, Nat.le_refl _, by decide, rfl, rfl⟩⟩ fun k hk => set k ?_
    simp only [Value.ownBlock, Option.some.injEq] at hk; omega
  · intro k hk
    simp only [Value.ownBlock, Option.some.injEq] at hk; subst hk
    exact .inr ⟨Nat.le_refl _, by rw [hss]; omega⟩
  · intro i d' hi
    have h0 : i = 0 := by
      rcases Nat.eq_zero_or_pos i with h0 | h0
      · exact h0
      · rw [List.getElem?_eq_none (by simp; omega)] at hi; cases hi
    subst h0; simp at hi; subst hi
    exact ⟨v, rfl, own_keep hd (keepO hd (by decide)), fun k e => .inl (hdF k e)⟩
  · exact ⟨rfl, rfl, rfl, by rw [hss]; omega, fun k hk hF => keep k hk (fun e => hF (e ▸ h.fp))⟩
set_option maxHeartbeats 2000000 in
theorem syncDir_c (F : Nat → Prop) (p : Nat) (st : St) (bv dv : Value) (dvs : List Value) (w : World) (h : RefAt F p st bv dv dvs w) (hw : Wf st) :
    Calls Tryz.prog 68 #[.pointer (some ⟨p, 0, none⟩)] w fun e w' => e = .returned (.tuple #[]) ∧ Did F p st.syncDir w w' := by
  obtain ⟨ql, hql⟩ : ∃ l, l = st.now.length := ⟨_, rfl⟩
  have HN : Hid (Calls Tryz.prog 78 #[.pointer (some ⟨p, 0, none⟩)] w fun e w' => (∃ ao cp, e = .returned (.agg #[.slice ao ql cp]) ∧ DirO w' 0 (.slice ao ql cp) st.now ∧ ∀ k, (Value.slice ao ql cp).ownBlock = some k → F k) ∧ Below w.heap.size w w') := now_c' F p st bv dv dvs w h hw ql hql
  have HH : Hid (RefAt F p st bv dv dvs w) := h
  have e2 : w.cell? ⟨p, 2, none⟩ = some dv := by rw [Lib.cell_of_heap h.blk]; rfl
  have g2 : w.frozen? ⟨p, 2, none⟩ = false := Lib.frozen_of_heap h.blk 2
  have hlt : p < w.heap.size := (Array.getElem?_eq_some_iff.1 h.blk).1
  clear h hw hql
  go_enter Tryz.func68, Tryz.ntmps68
  go_wp2_with (go_at_call 78; refine HN.out.mono ?_; rintro e w1 ⟨⟨ao, cp, rfl, hd, hvF⟩, hb1⟩; have hs1 := hb1.size; have hr1 := HH.out.below hb1; have hbk : ((w1.alloc (.cells #[.slice ao ql cp] 105)).alloc (.cells #[.slice ao ql cp] 105)).heap[p]? = some (.cells #[.int .i64 st.cap, bv, dv] 109 (0, 0)) := (by rw [Lib.alloc_old _ _ p (by simp; omega), Lib.alloc_old _ _ p (by omega)]; exact hr1.blk); have c2 : ((w1.alloc (.cells #[.slice ao ql cp] 105)).alloc (.cells #[.slice ao ql cp] 105)).cell? ⟨p, 2, none⟩ = some dv := (by rw [Lib.cell_of_heap hbk]; rfl); have f2 : ((w1.alloc (.cells #[.slice ao ql cp] 105)).alloc (.cells #[.slice ao ql cp] 105)).frozen? ⟨p, 2, none⟩ = false := Lib.frozen_of_heap hbk 2; have HBK : Hid (RefAt F p st bv dv dvs w1) := hr1; clear hr1 hbk)
  go_end0
  have r2 := HBK.out.below (w' := w1.alloc (.cells #[.slice ao ql cp] 105)) ((Below.refl _ w1).alloc (Nat.le_refl _) _)
  have R := r2.oneDir (World.ownsRow.alloc hd _) hvF
  have hsz : (w1.alloc (.cells #[.slice ao ql cp] 105)).heap.size = w1.heap.size + 1 := by simp
  rw [hsz] at R
  exact ⟨rfl, Did.after (hb1.alloc hs1 _) ⟨⟨_, _, _, R.1⟩, R.2⟩⟩
theorem own_poke {w : World} {B : Nat} {e : TypeId} {size : Nat} {g n cap : Nat} {xs : List Value} (h : w.ownsRow B e size (.slice (some ⟨g, 0, none⟩) n cap) n xs) (j : Nat) (hj : j < xs.length) (v : Value) : (w.setCell ⟨g, j, none⟩ v).ownsRow B e size (.slice (some ⟨g, 0, none⟩) n cap) n (xs.set j v) := by
  refine ⟨by rw [List.length_set]; exact h.1, .inr ?_⟩
  rcases h.2 with ⟨h1, _⟩ | ⟨g', cap', cur, hv, hb, hh, h1, h2, h3, h4⟩
  · cases h1
  · cases hv
    refine ⟨g, cap, cur.setIfInBounds j v, rfl, hb, blk_set hh v, h1, h2, by simpa using h3, ?_⟩
    rw [Array.toList_setIfInBounds, List.take_set, h4]
theorem bodV_set (l : List Bd) (i : Nat) (b b' : Bd) (j : Nat) (v : Value) (h : l[i]? = some b)
    (hv : [.int .i64 b'.date, .int .i64 b'.uid, .int .i64 b'.gid, .int .i64 b'.mode, .string b'.data, .int .i64 b'.safe] = [Value.int .i64 b.date, .int .i64 b.uid, .int .i64 b.gid, .int .i64 b.mode, .string b.data, .int .i64 b.safe].set j v) (hj : j < 6) :
    bodV (l.set i b') = (bodV l).set (i * 6 + j) v := by
  induction l generalizing i with
  | nil => simp at h
  | cons e r ih =>
    cases i with
    | zero =>
      simp at h; subst h
      simp only [List.set_cons_zero, bodV, List.flatMap_cons, Nat.zero_mul, Nat.zero_add]
      rw [hv, List.set_append_left _ _ (by simpa using hj)]
    | succ i =>
      have := ih i (by simpa using h)
      simp only [List.set_cons_succ, bodV, List.flatMap_cons] at this ⊢
      rw [this, List.set_append_right _ _ (by simp; omega)]
      congr 2
      simp; omega
/-- One cell of a body written. -/
theorem RefAt.poked {F : Nat → Prop} {p : Nat} {st : St} {bv dv : Value} {dvs : List Value} {w : World} (h : RefAt F p st bv dv dvs w) {g cap : Nat} (hbv : bv = .slice (some ⟨g, 0, none⟩) st.bodies.length cap) (i : Nat) (b b' : Bd) (j : Nat) (v : Value) (hi : st.bodies[i]? = some b)
    (hv : [.int .i64 b'.date, .int .i64 b'.uid, .int .i64 b'.gid, .int .i64 b'.mode, .string b'.data, .int .i64 b'.safe] = [Value.int .i64 b.date, .int .i64 b.uid, .int .i64 b.gid, .int .i64 b.mode, .string b.data, .int .i64 b.safe].set j v) (hj : j < 6) :
    RefAt F p { st with bodies := st.bodies.set i b' } bv dv dvs (w.setCell ⟨g, i * 6 + j, none⟩ v) ∧ Kp F w (w.setCell ⟨g, i * 6 + j, none⟩ v) := by
  subst hbv
  have hl : i < st.bodies.length := by
    rcases Nat.lt_or_ge i st.bodies.length with h' | h'
    · exact h'
    · rw [List.getElem?_eq_none h'] at hi; cases hi
  obtain ⟨cur, hg⟩ := own_typed h.bod rfl
  have set : ∀ k, k ≠ g → (w.setCell ⟨g, i * 6 + j, none⟩ v).heap[k]? = w.heap[k]? := fun k hk => Below.heap_setCell _ _ _ _ hk
  have keepO : ∀ {B n e size u xs}, w.ownsRow B e size u n xs → e ≠ 141 → ∀ k, u.ownBlock = some k → (w.setCell ⟨g, i * 6 + j, none⟩ v).heap[k]? = w.heap[k]? := by
    intro B n e size u xs ho n1 k hk
    obtain ⟨cur', hc⟩ := own_typed ho hk
    exact set k (fun e' => typed_ne hc hg n1 e')
  refine ⟨⟨h.fp, ?_, ?_, h.bodF, own_keep h.drs (keepO h.drs (by decide)), h.drsF, fun i' d hd => ?_⟩, ⟨rfl, rfl, rfl, by simp [World.setCell], fun k hk hF => set k (fun e => hF (e ▸ h.bodF g rfl))⟩⟩
  · rw [set p (fun e => typed_ne h.blk hg (by decide) e)]; exact h.blk
  · rw [bodV_set st.bodies i b b' j v hi hv hj]
    have := own_poke h.bod (i * 6 + j) (by rw [bodV_length]; omega) v
    simpa using this
  · obtain ⟨u, h1, h2, h3⟩ := h.ent i' d hd
    exact ⟨u, h1, own_keep h2 (keepO h2 (by decide)), h3⟩
theorem Did.of_kept {F : Nat → Prop} {p : Nat} {st : St} {bv dv : Value} {dvs : List Value} {w w' : World} (h : RefAt F p st bv dv dvs w') (hk : Kp F w w') : Did F p st w w' := ⟨⟨bv, dv, dvs, h.mono fun k hk => .inl hk⟩, hk⟩
theorem RefAt.drew {F : Nat → Prop} {p : Nat} {st : St} {bv dv : Value} {dvs : List Value} {w : World} (h : RefAt F p st bv dv dvs w) : RefAt F p st bv dv dvs w.drew := h.same fun k _ _ => rfl
set_option maxHeartbeats 2000000 in
theorem sync_c (F : Nat → Prop) (p : Nat) (st : St) (bv dv : Value) (dvs : List Value) (n : Int) (w : World) (h : RefAt F p st bv dv dvs w) (hw : Wf st) :
    Calls Tryz.prog 67 #[.pointer (some ⟨p, 0, none⟩), .int .i64 n] w fun e w' => e = .returned (.int .i64 (st.sync n).1) ∧ Did F p (st.sync n).2 w w' := by
  have hnl := now_len hw
  obtain ⟨ql, hql⟩ : ∃ l, l = st.now.length := ⟨_, rfl⟩
  have HN : Hid (Calls Tryz.prog 78 #[.pointer (some ⟨p, 0, none⟩)] w fun e w' => (∃ ao cp, e = .returned (.agg #[.slice ao ql cp]) ∧ DirO w' 0 (.slice ao ql cp) st.now ∧ ∀ k, (Value.slice ao ql cp).ownBlock = some k → F k) ∧ Below w.heap.size w w') := now_c' F p st bv dv dvs w h hw ql hql
  have HT : Hid (∀ v wx, DirO wx 0 v st.now → Calls Tryz.prog 80 #[.agg #[v], .int .i64 n] wx fun e w' => e = .returned (.bool (there st.now n)) ∧ Below wx.heap.size wx w') := fun v wx hd => there_c v st.now n wx hd.dirV (by omega)
  have HH : Hid (RefAt F p st bv dv dvs w) := h
  cases ht : there st.now n with
  | false =>
    rw [ht] at HT
    have HR : Hid (st.sync n = (34, st)) := by show _ = _; unfold St.sync; rw [at_none ht]
    clear h hw ht hql
    go_enter Tryz.func67, Tryz.ntmps67
    go_wp2_with (first
      | (go_at_call 78; refine HN.out.mono ?_; rintro e w1 ⟨⟨ao, cp, rfl, hd, hvF⟩, hb1⟩)
      | (go_at_call 80; refine (HT.out _ _ (World.ownsRow.alloc hd _)).mono ?_; rintro e w2 ⟨rfl, hb2⟩; have hb2' := (hb1.alloc hb1.size (.cells #[.slice ao ql cp] 105)).trans (hb2.mono (by have := hb1.size; simp; omega))))
    go_ret
    rw [HR.out]
    exact ⟨rfl, Did.of_below HH.out hb2'⟩
  | true =>
    obtain ⟨i, b, rfl, hbi⟩ := there_body hw ht
    rw [ht] at HT
    have HR : Hid (st.sync ((i : Int) + 1) = (0, { st with bodies := st.bodies.set i { b with safe := b.data.size } })) := by
      show _ = _; unfold St.sync; rw [at_some ht hbi]; simp only [St.put]; rw [show ((i : Int) + 1).toNat - 1 = i by omega]
    obtain ⟨g, cap, hbv, hil, _, _, _, _, e4, e5⟩ := h.body i b hbi
    have e1 : w.cell? ⟨p, 1, none⟩ = some bv := by rw [Lib.cell_of_heap h.blk]; rfl
    have hmany := hw.many
    have HBV : Hid (bv = .slice (some ⟨g, 0, none⟩) st.bodies.length cap ∧ st.bodies[i]? = some b) := ⟨hbv, hbi⟩
    obtain ⟨nb, hnb⟩ : ∃ n, n = st.bodies.length := ⟨_, rfl⟩
    rw [← hnb] at hbv hil hmany
    rw [hbv] at e1
    have i1 : (0 : Int) ≤ (i : Int) := by omega
    have i2 : (i : Int) < (nb : Int) := by omega
    have i5 : IntKind.i64.wrap (i : Int) = (i : Int) := wrap_i64 (by omega)
    clear h hw ht hql hbi hbv hnb
    go_enter Tryz.func67, Tryz.ntmps67
    go_wp2_with (first
      | (go_at_call 78; refine HN.out.mono ?_; rintro e w1 ⟨⟨ao, cp, rfl, hd, hvF⟩, hb1⟩)
      | (go_at_call 80; refine (HT.out _ _ (World.ownsRow.alloc hd _)).mono ?_; rintro e w2 ⟨rfl, hb2⟩; have hb2' := (hb1.alloc hb1.size (.cells #[.slice ao ql cp] 105)).trans (hb2.mono (by have := hb1.size; simp; omega)); have c1 := cell_below hb2' e1; have c4 := cell_below hb2' e4; have c5 := cell_below hb2' e5; have hr2 := HH.out.below hb2'; obtain ⟨cur, hgb⟩ := own_typed hr2.bod (show bv.ownBlock = some g by rw [HBV.out.1]; rfl); have f5 : w2.frozen? ⟨g, i * 6 + 5, none⟩ = false := Lib.frozen_of_heap hgb _; have hpg : p ≠ g := (fun e' => typed_ne hr2.blk hgb (by decide) e'); clear hgb hr2))
    have k1 : ∀ v, (w2.setCell ⟨g, i * 6 + 5, none⟩ v).cell? ⟨p, 1, none⟩ = some (.slice (some ⟨g, 0, none⟩) nb cap) := fun v => by rw [World.cell?_setCell_other _ _ _ _ (fun e' => hpg (congrArg Addr.block e').symm)]; exact c1
    have k2 : ∀ v, (w2.setCell ⟨g, i * 6 + 5, none⟩ v).cell? ⟨g, i * 6 + 4, none⟩ = some (.string b.data) := fun v => by rw [World.cell?_setCell_other _ _ _ _ (fun e' => by have := congrArg Addr.off e'; simp at this)]; exact c4
    go_region_held3 (fun w' => w'.cell? ⟨p, 1, none⟩ = some (.slice (some ⟨g, 0, none⟩) nb cap) ∧ w'.cell? ⟨g, i * 6 + 4, none⟩ = some (.string b.data)) (first | go_keep | exact ⟨k1 _, k2 _⟩) (fail)
    go_wp2
    go_ret
    have R := (HH.out.below hb2').poked HBV.out.1 i b { b with safe := b.data.size } 5 (.int .i64 b.data.size) HBV.out.2 rfl (by decide)
    rw [HR.out]
    exact ⟨rfl, Did.after hb2' (Did.of_kept R.1.drew R.2.drew)⟩
set_option maxHeartbeats 2000000 in
theorem append_c (F : Nat → Prop) (p : Nat) (st : St) (bv dv : Value) (dvs : List Value) (n : Int) (data : ByteArray) (w : World) (h : RefAt F p st bv dv dvs w) (hw : Wf st) (hdl : data.size ≤ 140737488355328) :
    Calls Tryz.prog 66 #[.pointer (some ⟨p, 0, none⟩), .int .i64 n, .string data] w fun e w' => e = .returned (.int .i64 (st.append n data).1) ∧ Did F p (st.append n data).2 w w' := by
  have hnl := now_len hw
  obtain ⟨ql, hql⟩ : ∃ l, l = st.now.length := ⟨_, rfl⟩
  have HN : Hid (Calls Tryz.prog 78 #[.pointer (some ⟨p, 0, none⟩)] w fun e w' => (∃ ao cp, e = .returned (.agg #[.slice ao ql cp]) ∧ DirO w' 0 (.slice ao ql cp) st.now ∧ ∀ k, (Value.slice ao ql cp).ownBlock = some k → F k) ∧ Below w.heap.size w w') := now_c' F p st bv dv dvs w h hw ql hql
  have HT : Hid (∀ v wx, DirO wx 0 v st.now → Calls Tryz.prog 80 #[.agg #[v], .int .i64 n] wx fun e w' => e = .returned (.bool (there st.now n)) ∧ Below wx.heap.size wx w') := fun v wx hd => there_c v st.now n wx hd.dirV (by omega)
  have HH : Hid (RefAt F p st bv dv dvs w) := h
  cases ht : there st.now n with
  | false =>
    rw [ht] at HT
    have HR : Hid (st.append n data = (34, st)) := by show _ = _; unfold St.append; rw [at_none ht]
    clear h hw ht hql
    go_enter Tryz.func66, Tryz.ntmps66
    go_wp2_with (first
      | (go_at_call 78; refine HN.out.mono ?_; rintro e w1 ⟨⟨ao, cp, rfl, hd, hvF⟩, hb1⟩)
      | (go_at_call 80; refine (HT.out _ _ (World.ownsRow.alloc hd _)).mono ?_; rintro e w2 ⟨rfl, hb2⟩; have hb2' := (hb1.alloc hb1.size (.cells #[.slice ao ql cp] 105)).trans (hb2.mono (by have := hb1.size; simp; omega))))
    go_ret
    rw [HR.out]
    exact ⟨rfl, Did.of_below HH.out hb2'⟩
  | true =>
    obtain ⟨i, b, rfl, hbi⟩ := there_body hw ht
    rw [ht] at HT
    have HU : Hid (∀ wx, Below w.heap.size w wx → Calls Tryz.prog 83 #[.pointer (some ⟨p, 0, none⟩)] wx fun e w' => e = .returned (.int .i64 st.used) ∧ Below wx.heap.size wx w') := fun wx hb => used_c F p st bv dv dvs wx (h.below hb) hw
    have hul : st.used ≤ 68719476736 := by have := usedIn_le hw st.now; show usedIn _ _ ≤ _; omega
    have e0 : w.cell? ⟨p, 0, none⟩ = some (.int .i64 st.cap) := by rw [Lib.cell_of_heap h.blk]; rfl
    have hcap := hw.cap
    obtain ⟨us, hus⟩ : ∃ u, u = st.used := ⟨_, rfl⟩
    obtain ⟨cp0, hcp0⟩ : ∃ u, u = st.cap := ⟨_, rfl⟩
    rw [← hus] at HU hul
    rw [← hcp0] at e0 hcap
    have u1 : (us : Int) + (data.size : Int) ≤ 9223372036854775807 := by omega
    by_cases hfull : data ≠ ⟨#[]⟩ ∧ cp0 < us + data.size
    · have HR : Hid (st.append ((i : Int) + 1) data = (31, st)) := by
        show _ = _; unfold St.append; rw [at_some ht hbi]; simp only []; rw [if_pos (by rw [← hus, ← hcp0]; exact hfull)]
      have b1 := empty_no hfull.1
      have b3 : data.toList.isEmpty = false := by simp [b1]
      have b2 : decide ((cp0 : Int) < (us : Int) + (data.size : Int)) = true := by have := hfull.2; simp; omega
      clear h hw ht hql hbi hfull hus hcp0
      go_enter Tryz.func66, Tryz.ntmps66
      go_wp2_with (first
        | (go_at_call 78; refine HN.out.mono ?_; rintro e w1 ⟨⟨ao, cp, rfl, hd, hvF⟩, hb1⟩)
        | (go_at_call 80; refine (HT.out _ _ (World.ownsRow.alloc hd _)).mono ?_; rintro e w2 ⟨rfl, hb2⟩; have hb2' := (hb1.alloc hb1.size (.cells #[.slice ao ql cp] 105)).trans (hb2.mono (by have := hb1.size; simp; omega)))
        | (go_at_call 83; refine (HU.out _ hb2').mono ?_; rintro e w3 ⟨rfl, hb3⟩; have hb3' := hb2'.trans (hb3.mono hb2'.size); have c0 := cell_below hb3' e0))
      go_ret
      rw [HR.out]
      exact ⟨rfl, Did.of_below HH.out hb3'⟩
    · have HR : Hid (st.append ((i : Int) + 1) data = (0, { st with bodies := st.bodies.set i { b with data := b.data ++ data } })) := by
        show _ = _; unfold St.append; rw [at_some ht hbi]; simp only []; rw [if_neg (by rw [← hus, ← hcp0]; exact hfull)]; simp only [St.put]; rw [show ((i : Int) + 1).toNat - 1 = i by omega]
      obtain ⟨g, cap, hbv, hil, _, _, _, _, e4, e5⟩ := h.body i b hbi
      have e1 : w.cell? ⟨p, 1, none⟩ = some bv := by rw [Lib.cell_of_heap h.blk]; rfl
      have hmany := hw.many
      have HBV : Hid (bv = .slice (some ⟨g, 0, none⟩) st.bodies.length cap ∧ st.bodies[i]? = some b) := ⟨hbv, hbi⟩
      have hbb := (hw.bod b (List.mem_of_getElem? hbi)).1
      obtain ⟨nb, hnb⟩ : ∃ n, n = st.bodies.length := ⟨_, rfl⟩
      rw [← hnb] at hbv hil hmany
      rw [hbv] at e1
      have i1 : (0 : Int) ≤ (i : Int) := by omega
      have i2 : (i : Int) < (nb : Int) := by omega
      have i5 : IntKind.i64.wrap (i : Int) = (i : Int) := wrap_i64 (by omega)
      have i7 : ¬ ((9223372036854775807 : Int) < (b.data.size : Int) + (data.size : Int)) := by omega
      have cases2 : data = ⟨#[]⟩ ∨ (data ≠ ⟨#[]⟩ ∧ decide ((cp0 : Int) < (us : Int) + (data.size : Int)) = false) := by
        by_cases hd0 : data = ⟨#[]⟩
        · exact .inl hd0
        · refine .inr ⟨hd0, ?_⟩
          have : ¬ cp0 < us + data.size := fun h' => hfull ⟨hd0, h'⟩
          simp; omega
      clear h hw ht hql hbi hbv hnb hfull hus hcp0
      have b13 : (data.toList = [] ∧ data.toList.isEmpty = true) ∨ (¬ data.toList = [] ∧ data.toList.isEmpty = false ∧ decide ((cp0 : Int) < (us : Int) + (data.size : Int)) = false) := by
        rcases cases2 with h0 | ⟨h0, h1⟩
        · left; rw [h0]; exact ⟨by rw [ByteArray.toList_eq], by rw [ByteArray.toList_eq]; rfl⟩
        · have b1 := empty_no h0
          right; exact ⟨b1, by simp [b1], h1⟩
      clear cases2
      rcases b13 with ⟨b1, b3⟩ | ⟨b1, b3, b2⟩
      all_goals
        go_enter Tryz.func66, Tryz.ntmps66
        go_wp2_with (first
            | (go_at_call 78; refine HN.out.mono ?_; rintro e w1 ⟨⟨ao, cp, rfl, hd, hvF⟩, hb1⟩)
            | (go_at_call 80; refine (HT.out _ _ (World.ownsRow.alloc hd _)).mono ?_; rintro e w2 ⟨rfl, hb2⟩; have hb2' := (hb1.alloc hb1.size (.cells #[.slice ao ql cp] 105)).trans (hb2.mono (by have := hb1.size; simp; omega)))
            | (go_at_call 83; refine (HU.out _ hb2').mono ?_; rintro e w3 ⟨rfl, hb3⟩; have hb3' := hb2'.trans (hb3.mono hb2'.size); have c0 := cell_below hb3' e0; have c1 := cell_below hb3' e1; have c4 := cell_below hb3' e4; have hr3 := HH.out.below hb3'; obtain ⟨cur, hgb⟩ := own_typed hr3.bod (show bv.ownBlock = some g by rw [HBV.out.1]; rfl); have f4 : w3.frozen? ⟨g, i * 6 + 4, none⟩ = false := Lib.frozen_of_heap hgb _; have hpg : p ≠ g := (fun e' => typed_ne hr3.blk hgb (by decide) e'); clear hgb hr3))
        go_region
        all_goals
          go_wp2
          go_ret
          have R := (HH.out.below hb3').poked HBV.out.1 i b { b with data := b.data ++ data } 4 (.string (b.data ++ data)) HBV.out.2 rfl (by decide)
          rw [HR.out]
          exact ⟨rfl, Did.after hb3' (Did.of_kept R.1.drew R.2.drew)⟩
set_option maxHeartbeats 2000000 in
theorem remove_c (F : Nat → Prop) (p : Nat) (st : St) (bv dv : Value) (dvs : List Value) (name : ByteArray) (w : World) (h : RefAt F p st bv dv dvs w) (hw : Wf st) :
    Calls Tryz.prog 76 #[.pointer (some ⟨p, 0, none⟩), .string name] w fun e w' => e = .returned (.int .i64 (st.remove name).1) ∧ Did F p (st.remove name).2 w w' := by
  have HF : Hid (∀ w, Calls Tryz.prog 51 #[.string name] w fun e w' => e = .returned (.bool (okName name)) ∧ w' = w) := fun w => fileName_c name w
  have HH : Hid (RefAt F p st bv dv dvs w) := h
  rcases hok : okName name with _ | _
  · rw [hok] at HF
    have HC : Hid (st.remove name = (32, st)) := by show _ = _; unfold St.remove; rw [if_pos hok]
    clear h hw hok
    go_enter Tryz.func76, Tryz.ntmps76
    go_wp2_with (go_at_call 51; refine (HF.out _).mono ?_; rintro e w1 ⟨rfl, hw1⟩; subst w1)
    go_ret
    rw [HC.out]
    exact ⟨rfl, Did.of_below HH.out (Below.refl _ _)⟩
  · rw [hok] at HF
    have hnl := now_len hw
    obtain ⟨ql, hql⟩ : ∃ l, l = st.now.length := ⟨_, rfl⟩
    have HN : Hid (Calls Tryz.prog 78 #[.pointer (some ⟨p, 0, none⟩)] w fun e w' => (∃ ao cp, e = .returned (.agg #[.slice ao ql cp]) ∧ DirO w' 0 (.slice ao ql cp) st.now ∧ ∀ k, (Value.slice ao ql cp).ownBlock = some k → F k) ∧ Below w.heap.size w w') := now_c' F p st bv dv dvs w h hw ql hql
    obtain ⟨l0, hl0⟩ : ∃ l, l = leads st.now name := ⟨_, rfl⟩
    have HLD : Hid (∀ v wx, DirO wx 0 v st.now → Calls Tryz.prog 79 #[.agg #[v], .string name] wx fun e w' => e = .returned (.int .i64 l0) ∧ Below wx.heap.size wx w') := fun v wx hd => by rw [hl0]; exact leads_c v st.now name wx hd.dirV (by omega)
    by_cases hz : l0 = 0
    · have HC : Hid (st.remove name = (30, st)) := by
        show _ = _
        unfold St.remove
        rw [if_neg (by rw [hok]; decide), if_pos (by rw [← hl0]; exact hz)]
      have b1 : ((l0 : Int) == 0) = true := by simp [hz]
      have HZ : Hid (l0 = 0) := hz
      clear h hw hok hql hl0 hz
      go_enter Tryz.func76, Tryz.ntmps76
      go_wp2_with (first
        | (go_at_call 51; refine (HF.out _).mono ?_; rintro e w1 ⟨rfl, hw1⟩; subst w1)
        | (go_at_call 78; refine HN.out.mono ?_; rintro e w1 ⟨⟨ao, cp, rfl, hd, hvF⟩, hb1⟩)
        | (go_at_call 79; refine (HLD.out _ _ (World.ownsRow.alloc hd _)).mono ?_; rintro e w2 ⟨rfl, hb2⟩; have hb2' := (hb1.alloc hb1.size (.cells #[.slice ao ql cp] 105)).trans (hb2.mono (by have := hb1.size; simp; omega))))
      go_ret
      rw [HC.out]
      exact ⟨rfl, Did.of_below HH.out hb2'⟩
    · have HC : Hid (st.remove name = (0, { st with dirs := st.dirs ++ [without st.now name] })) := by
        show _ = _
        unfold St.remove
        rw [if_neg (by rw [hok]; decide), if_neg (by rw [← hl0]; exact hz)]
      have b1 : ((l0 : Int) == 0) = false := by simp; omega
      have HWO : Hid (∀ v wx, DirO wx 0 v st.now → Calls Tryz.prog 90 #[.agg #[v], .string name] wx fun e w' => (∃ v', e = .returned (.agg #[v']) ∧ DirO w' wx.heap.size v' (without st.now name)) ∧ Below wx.heap.size wx w') := fun v wx hd => without_c v st.now name wx hd.dirV (by omega)
      have HLG : Hid (st.dirs.length ≤ 2097152) := hw.long
      clear h hw hok hql hl0 hz
      go_enter Tryz.func76, Tryz.ntmps76
      go_wp2_with (first
        | (go_at_call 51; refine (HF.out _).mono ?_; rintro e w1 ⟨rfl, hw1⟩; subst w1)
        | (go_at_call 78; refine HN.out.mono ?_; rintro e w1 ⟨⟨ao, cp, rfl, hd, hvF⟩, hb1⟩)
        | (go_at_call 79; refine (HLD.out _ _ (World.ownsRow.alloc hd _)).mono ?_; rintro e w2 ⟨rfl, hb2⟩; have hb2' := (hb1.alloc hb1.size (.cells #[.slice ao ql cp] 105)).trans (hb2.mono (by have := hb1.size; simp; omega)); have hd2 := dir_below (World.ownsRow.alloc hd _) hb2; have c9 : w2.cell? ⟨w1.heap.size, 0, none⟩ = some (.slice ao ql cp) := cell_below hb2 (by simp))
        | (go_at_call 90; refine (HWO.out _ _ hd2).mono ?_; rintro e w4 ⟨⟨v4, rfl, hd4⟩, hb4⟩; obtain ⟨ao4, cp4, rfl⟩ := own_shape hd4))
      have hb5 : Below w2.heap.size w2 (w4.alloc (.cells #[.slice ao4 (without st.now name).length cp4] 105)) := hb4.alloc hb4.size _
      have r2 := HH.out.below hb2'
      have r5 := (r2.below hb5).mono (G := ext F w2 (w4.alloc (.cells #[.slice ao4 (without st.now name).length cp4] 105))) (fun k hk => .inl hk)
      have hd5 : DirO (w4.alloc (.cells #[.slice ao4 (without st.now name).length cp4] 105)) w2.heap.size (.slice ao4 (without st.now name).length cp4) (without st.now name) := World.ownsRow.alloc hd4 _
      have hC := change_c _ p _ _ _ _ _ (without st.now name) _ r5 HLG.out (own_mono hd5 (Nat.zero_le _)) (fun k hk => .inr (World.ownsRow.lt hd5 k hk))
      have HCC : Hid (Calls Tryz.prog 82 #[.pointer (some ⟨p, 0, none⟩), .agg #[.slice ao4 (without st.now name).length cp4]] (w4.alloc (.cells #[.slice ao4 (without st.now name).length cp4] 105)) fun e w' => e = .returned (.tuple #[]) ∧ Did F p (st.remove name).2 w w') := hC.mono (by
        rintro e w6 ⟨rfl, dv', rr, kk⟩
        refine ⟨rfl, Did.after hb2' ((Did.of_below r2 hb5).then ?_)⟩
        rw [HC.out]
        exact ⟨⟨_, _, _, rr⟩, kk⟩)
      clear hC hd5 r5 hb5 r2 hd4 hb4
      go_wp2_with (go_at_call 82; refine HCC.out.mono ?_; rintro e w6 ⟨rfl, hD⟩)
      go_ret
      rw [HC.out] at hD ⊢
      exact ⟨rfl, hD⟩
end Go.Proofs.YtofmiaaglbcebaaGreatDoor
