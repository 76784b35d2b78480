import Derived.Test.YtofmiaaglbcebaaGreatDoorM1
import Derived.Deep.QuietTactic
import Derived.BigQuiet
import Derived.Deep.MidRow

-- The document's questions.
namespace Go.Proofs.YtofmiaaglbcebaaGreatDoor
open Go.RowKit
set_option linter.unusedVariables false
theorem bodV_at (l : List Bd) (j : Nat) (b : Bd) (h : l[j]? = some b) :
    (bodV l)[j * 6]? = some (.int .i64 b.date) ∧ (bodV l)[j * 6 + 1]? = some (.int .i64 b.uid) ∧ (bodV l)[j * 6 + 2]? = some (.int .i64 b.gid) ∧ (bodV l)[j * 6 + 3]? = some (.int .i64 b.mode) ∧
    (bodV l)[j * 6 + 4]? = some (.string b.data) ∧ (bodV l)[j * 6 + 5]? = some (.int .i64 b.safe) := by
  induction l generalizing j with
  | nil => simp at h
  | cons e r ih =>
    cases j with
    | zero => simp at h; subst h; simp [bodV]
    | succ j =>
      have := ih j (by simpa using h)
      have e1 : (j + 1) * 6 = j * 6 + 1 + 1 + 1 + 1 + 1 + 1 := by omega
      rw [e1]
      simpa [bodV] using this
theorem RefAt.body {F : Nat → Prop} {p : Nat} {st : St} {bv dv : Value} {dvs : List Value} {w : World} (h : RefAt F p st bv dv dvs w) (i : Nat) (b : Bd) (hi : st.bodies[i]? = some b) :
    ∃ g cap, bv = .slice (some ⟨g, 0, none⟩) st.bodies.length cap ∧ i < st.bodies.length ∧ w.cell? ⟨g, i * 6, none⟩ = some (.int .i64 b.date) ∧ w.cell? ⟨g, i * 6 + 1, none⟩ = some (.int .i64 b.uid) ∧ w.cell? ⟨g, i * 6 + 2, none⟩ = some (.int .i64 b.gid) ∧
      w.cell? ⟨g, i * 6 + 3, none⟩ = some (.int .i64 b.mode) ∧ w.cell? ⟨g, i * 6 + 4, none⟩ = some (.string b.data) ∧ w.cell? ⟨g, i * 6 + 5, none⟩ = some (.int .i64 b.safe) := by
  have hl : i < st.bodies.length := by
    rcases Nat.lt_or_ge i st.bodies.length with h' | h'
    · exact h'
    · rw [List.getElem?_eq_none h'] at hi; cases hi
  rcases h.bod.2 with ⟨_, h0⟩ | ⟨g, cap, cur, rfl, _⟩
  · omega
  obtain ⟨a0, a1, a2, a3, a4, a5⟩ := bodV_at st.bodies i b hi
  have key : ∀ j u, (bodV st.bodies)[j]? = some u → w.cell? ⟨g, j, none⟩ = some u := fun j u hu => by
    have := h.bod.cells (g := g) rfl j u hu
    rwa [add_lit0] at this
  exact ⟨g, cap, rfl, hl, key _ _ a0, key _ _ a1, key _ _ a2, key _ _ a3, key _ _ a4, key _ _ a5⟩
set_option maxHeartbeats 2000000 in
theorem used_c (F : Nat → Prop) (p : Nat) (st : St) (bv dv : Value) (dvs : List Value) (w : World) (h : RefAt F p st bv dv dvs w) (hw : Wf st) :
    Calls Tryz.prog 83 #[.pointer (some ⟨p, 0, none⟩)] w fun e w' => e = .returned (.int .i64 st.used) ∧ Below w.heap.size w w' := by
  have HN : Hid (Calls Tryz.prog 78 #[.pointer (some ⟨p, 0, none⟩)] w fun e w' => (∃ v, e = .returned (.agg #[v]) ∧ DirO w 0 v st.now ∧ ∀ k, v.ownBlock = some k → F k) ∧ Below w.heap.size w w') := now_c F p st bv dv dvs w h hw
  have HH : Hid (RefAt F p st bv dv dvs w) := h
  have HW : Hid (Wf st) := hw
  have hnl := now_len hw
  obtain ⟨ql, hql⟩ : ∃ l, l = st.now.length := ⟨_, rfl⟩
  have HQL : Hid (ql = st.now.length) := hql
  rw [← hql] at hnl
  clear h hw
  go_enter Tryz.func83, Tryz.ntmps83
  go_wp2_with (go_at_call 78; refine HN.out.mono ?_; rintro e w1 ⟨⟨v, rfl, hd, hvF⟩, hb1⟩; obtain ⟨ao, cp, rfl⟩ := own_shape hd)
  rw [← hql] at hd ⊢
  have HDV : Hid (∀ j, j < ql → ∃ g, ao = some ⟨g, 0, none⟩ ∧ w.cell? ⟨g, j * 2, none⟩ = some (.string (st.now.getD j default).1) ∧ w.cell? ⟨g, j * 2 + 1, none⟩ = some (.int .i64 (st.now.getD j default).2)) := by
    intro j hj
    rcases hd.dirV with ⟨h0, _⟩ | ⟨g, cap, hv, hc⟩
    · rw [hql, h0] at hj; simp at hj
    · cases hv; exact ⟨g, rfl, hc j (by rw [← hql]; exact hj)⟩
  clear hd hvF hql HN
  have hb1a : Below w.heap.size w (w1.alloc (.cells #[.slice ao ql cp] 105)) := hb1.alloc hb1.size _
  go_loopw [4, 5] (fun s i wr => ∃ k : Nat, i = .int .i64 k ∧ k ≤ ql ∧ s = .int .i64 (usedIn st.bodies (st.now.take k)) ∧ wr.cell? ⟨w1.heap.size, 0, none⟩ = some (.slice ao ql cp) ∧ Below w.heap.size w wr) (fun _ i _ => ql - (intOf i).toNat)
  case atStart => exact ⟨0, rfl, Nat.zero_le _, rfl, by simp, hb1a⟩
  case round =>
    obtain ⟨k, rfl, hkm, rfl, hbx, hbw⟩ := hrel
    by_cases hk : k < ql
    · obtain ⟨ge, rfl, d0, d1⟩ := HDV.out k hk
      have hge : st.now[k]? = some (st.now.getD k default) := getD_some st.now k (by rw [← HQL.out]; exact hk)
      obtain ⟨x, y, hxy⟩ : ∃ x y, st.now.getD k default = (x, y) := ⟨_, _, rfl⟩
      rw [hxy] at d0 d1 hge
      obtain ⟨i, b, rfl, hbi⟩ := led_body HW.out hge
      obtain ⟨g, cap, hbv, hil, _, _, _, _, e4, _⟩ := HH.out.body i b hbi
      have e1 : w.cell? ⟨p, 1, none⟩ = some bv := by rw [Lib.cell_of_heap HH.out.blk]; rfl
      have HG : Hid (usedIn st.bodies (st.now.take (k + 1)) = usedIn st.bodies (st.now.take k) + b.data.size) := by
        show _ = _
        rw [usedIn_take _ _ _ _ _ hge]; unfold szOf; rw [show i + 1 - 1 = i by omega, hbi]
      have hul := usedIn_le HW.out (st.now.take k)
      rw [List.length_take] at hul
      have hbs := (HW.out.bod b (List.mem_of_getElem? hbi)).1
      have hmany := HW.out.many
      obtain ⟨nb, hnb⟩ : ∃ n, n = st.bodies.length := ⟨_, rfl⟩
      rw [← hnb] at hbv hil hmany
      rw [hbv] at e1
      have c0 := cell_below hbw d0
      have c1 := cell_below hbw d1
      have c4 := cell_below hbw e4
      have cp1 := cell_below hbw e1
      obtain ⟨u, hu⟩ : ∃ u, u = usedIn st.bodies (st.now.take k) := ⟨_, rfl⟩
      rw [← hu] at hul HG ⊢
      have b1 : decide ((k : Int) < (ql : Int)) = true := by simp; omega
      have i1 : (0 : Int) ≤ (i : Int) := by omega
      have i2 : (i : Int) < (nb : Int) := by omega
      have i3 : (k : Int) < (ql : Int) := by omega
      have i4 : (0 : Int) ≤ (k : Int) := by omega
      have i5 : IntKind.i64.wrap (i : Int) = (i : Int) := wrap_i64 (by omega)
      have i6 : (u : Int) + (b.data.size : Int) ≤ 9223372036854775807 := by omega
      clear hge hxy hbi hbv hnb e1 d0 d1 e4 hu
      go_wp2
      go_quiet (fail)
      go_wp2
      exact ⟨⟨k + 1, rfl, by omega, by rw [HG.out]; simp, hbx, (below_drewN hbw _)⟩, by simp [intOf]; omega⟩
    · obtain rfl : k = ql := by omega
      have b1 : decide ((k : Int) < (k : Int)) = false := by simp
      have HR : Hid (st.used = usedIn st.bodies (st.now.take k)) := by show _ = _; rw [HQL.out, List.take_length]; rfl
      go_wp2
      go_ret
      exact ⟨by rw [HR.out]; rfl, hbw⟩
theorem pending_c (F : Nat → Prop) (p : Nat) (st : St) (bv dv : Value) (dvs : List Value) (w : World) (h : RefAt F p st bv dv dvs w) (hw : Wf st) :
    Calls Tryz.prog 60 #[.pointer (some ⟨p, 0, none⟩)] w fun e w' => e = .returned (.int .i64 (st.dirs.length - 1 : Nat)) ∧ w' = w := by
  have c2 : w.cell? ⟨p, 2, none⟩ = some dv := by rw [Lib.cell_of_heap h.blk]; rfl
  obtain ⟨n, hn⟩ : ∃ n, st.dirs.length = n + 1 := by
    cases hl : st.dirs with
    | nil => exact absurd hl hw.ne
    | cons a r => exact ⟨r.length, rfl⟩
  have hlong := hw.long
  obtain ⟨ao, cp, rfl⟩ := own_shape h.drs
  rw [hn] at c2 hlong ⊢
  have k2 : IntKind.i64.wrap (n : Int) = (n : Int) := wrap_i64 (by omega)
  clear h hw hn
  go_enter Tryz.func60, Tryz.ntmps60
  go_wp2
  go_ret
  exact ⟨by simp, rfl⟩
/-- The directory of now, as the calls take it. -/
theorem now_c' (F : Nat → Prop) (p : Nat) (st : St) (bv dv : Value) (dvs : List Value) (w : World) (h : RefAt F p st bv dv dvs w) (hw : Wf st) (ql : Nat) (hql : ql = st.now.length) :
    Calls Tryz.prog 78 #[.pointer (some ⟨p, 0, none⟩)] w fun e w' => (∃ ao cp, e = .returned (.agg #[.slice ao ql cp]) ∧ DirO w' 0 (.slice ao ql cp) st.now ∧ ∀ k, (Value.slice ao ql cp).ownBlock = some k → F k) ∧ Below w.heap.size w w' :=
  (now_c F p st bv dv dvs w h hw).mono (by
    rintro e w' ⟨⟨v, rfl, hd, hF⟩, hb'⟩
    obtain ⟨ao, cp, rfl⟩ := own_shape hd
    rw [← hql] at hd hF ⊢
    exact ⟨⟨ao, cp, rfl, dir_below hd hb', hF⟩, hb'⟩)
set_option maxHeartbeats 2000000 in
theorem read_c (F : Nat → Prop) (p : Nat) (st : St) (bv dv : Value) (dvs : List Value) (n : Int) (w : World) (h : RefAt F p st bv dv dvs w) (hw : Wf st) :
    Calls Tryz.prog 58 #[.pointer (some ⟨p, 0, none⟩), .int .i64 n] w fun e w' => e = .returned (.tuple #[.string (st.read n).1, .int .i64 (st.read n).2]) ∧ Below w.heap.size w w' := by
  have hnl := now_len hw
  obtain ⟨ql, hql⟩ : ∃ l, l = st.now.length := ⟨_, rfl⟩
  have HN : Hid (Calls Tryz.prog 78 #[.pointer (some ⟨p, 0, none⟩)] w fun e w' => (∃ ao cp, e = .returned (.agg #[.slice ao ql cp]) ∧ DirO w' 0 (.slice ao ql cp) st.now ∧ ∀ k, (Value.slice ao ql cp).ownBlock = some k → F k) ∧ Below w.heap.size w w') := now_c' F p st bv dv dvs w h hw ql hql
  have HT : Hid (∀ v wx, DirO wx 0 v st.now → Calls Tryz.prog 80 #[.agg #[v], .int .i64 n] wx fun e w' => e = .returned (.bool (there st.now n)) ∧ Below wx.heap.size wx w') := fun v wx hd => there_c v st.now n wx hd.dirV (by omega)
  cases ht : there st.now n with
  | false =>
    rw [ht] at HT
    have HR : Hid (st.read n = (⟨#[]⟩, 34)) := by show _ = _; unfold St.read; rw [at_none ht]
    clear h hw ht hql
    go_enter Tryz.func58, Tryz.ntmps58
    go_wp2_with (first
      | (go_at_call 78; refine HN.out.mono ?_; rintro e w1 ⟨⟨ao, cp, rfl, hd, hvF⟩, hb1⟩)
      | (go_at_call 80; refine (HT.out _ _ (World.ownsRow.alloc hd _)).mono ?_; rintro e w2 ⟨rfl, hb2⟩; have hb2' := (hb1.alloc hb1.size (.cells #[.slice ao ql cp] 105)).trans (hb2.mono (by have := hb1.size; simp; omega))))
    go_ret2
    rw [HR.out]
    exact ⟨rfl, hb2'⟩
  | true =>
    obtain ⟨i, b, rfl, hbi⟩ := there_body hw ht
    rw [ht] at HT
    have HR : Hid (st.read ((i : Int) + 1) = (b.data, 0)) := by show _ = _; unfold St.read; rw [at_some ht hbi]
    obtain ⟨g, cap, hbv, hil, _, _, _, _, e4, _⟩ := h.body i b hbi
    have e1 : w.cell? ⟨p, 1, none⟩ = some bv := by rw [Lib.cell_of_heap h.blk]; rfl
    have hmany := hw.many
    obtain ⟨nb, hnb⟩ : ∃ n, n = st.bodies.length := ⟨_, rfl⟩
    rw [← hnb] at hbv hil hmany
    rw [hbv] at e1
    have i1 : (0 : Int) ≤ (i : Int) := by omega
    have i2 : (i : Int) < (nb : Int) := by omega
    have i5 : IntKind.i64.wrap (i : Int) = (i : Int) := wrap_i64 (by omega)
    clear h hw ht hql hbi hbv hnb
    go_enter Tryz.func58, Tryz.ntmps58
    go_wp2_with (first
      | (go_at_call 78; refine HN.out.mono ?_; rintro e w1 ⟨⟨ao, cp, rfl, hd, hvF⟩, hb1⟩)
      | (go_at_call 80; refine (HT.out _ _ (World.ownsRow.alloc hd _)).mono ?_; rintro e w2 ⟨rfl, hb2⟩; have hb2' := (hb1.alloc hb1.size (.cells #[.slice ao ql cp] 105)).trans (hb2.mono (by have := hb1.size; simp; omega)); have c1 := cell_below hb2' e1; have c4 := cell_below hb2' e4))
    go_ret2
    rw [HR.out]
    exact ⟨rfl, hb2'⟩
theorem info9 : (Tryz.prog.info? 9).map (fun i => (i.zero, i.size, i.bytes)) = some (some (.string ⟨#[]⟩), 1, 16) := by kernel_rfl
set_option maxHeartbeats 2000000 in
theorem names_c (F : Nat → Prop) (p : Nat) (st : St) (bv dv : Value) (dvs : List Value) (w : World) (h : RefAt F p st bv dv dvs w) (hw : Wf st) :
    Calls Tryz.prog 59 #[.pointer (some ⟨p, 0, none⟩)] w fun e w' => (∃ v, e = .returned v ∧ w'.ownsRow w.heap.size 9 1 v st.names.length (strV st.names)) ∧ Below w.heap.size w w' := by
  obtain ⟨i0, hi, hz0, hz1, hz2⟩ := info_parts info9
  have hnl := now_len hw
  obtain ⟨ql, hql⟩ : ∃ l, l = st.now.length := ⟨_, rfl⟩
  have HN : Hid (Calls Tryz.prog 78 #[.pointer (some ⟨p, 0, none⟩)] w fun e w' => (∃ ao cp, e = .returned (.agg #[.slice ao ql cp]) ∧ DirO w' 0 (.slice ao ql cp) st.now ∧ ∀ k, (Value.slice ao ql cp).ownBlock = some k → F k) ∧ Below w.heap.size w w') := now_c' F p st bv dv dvs w h hw ql hql
  obtain ⟨q, hq⟩ : ∃ q, q = st.now := ⟨_, rfl⟩
  have HQ : Hid (st.names = q.map (·.1)) := by show _ = _; rw [hq]; rfl
  rw [← hq] at hql HN hnl
  have HQL : Hid (ql = q.length) := hql
  rw [← hql] at hnl
  rw [HQ.out]
  clear h hw hq hql
  go_enter Tryz.func59, Tryz.ntmps59
  go_wp2_with (go_at_call 78; refine HN.out.mono ?_; rintro e w1 ⟨⟨ao, cp, rfl, hd, hvF⟩, hb1⟩)
  have HDV : Hid (∀ j, j < ql → ∃ g, ao = some ⟨g, 0, none⟩ ∧ w1.cell? ⟨g, j * 2, none⟩ = some (.string (q.getD j default).1)) := by
    intro j hj
    rcases hd.dirV with ⟨h0, _⟩ | ⟨g, cap, hv, hc⟩
    · rw [HQL.out, h0] at hj; simp at hj
    · rw [HQL.out] at hv; cases hv; exact ⟨g, rfl, (hc j (by rw [← HQL.out]; exact hj)).1⟩
  clear hd hvF HN
  go_loopw [4, 5] (fun o i wr => ∃ k : Nat, i = .int .i64 k ∧ k ≤ ql ∧ wr.ownsRow (w1.heap.size + 1) 9 1 o k (strV ((q.take k).map (·.1))) ∧ Below (w1.heap.size + 1) (w1.alloc (.cells #[.slice ao ql cp] 105)) wr) (fun _ i _ => ql - (intOf i).toNat)
  case atStart => exact ⟨0, rfl, Nat.zero_le _, World.ownsRow_nil _ _ _ _, Below.refl _ _⟩
  case round =>
    obtain ⟨k, rfl, hkm, hown, hbw⟩ := hrel
    have hbs : w1.heap.size + 1 ≤ wr.heap.size := by have := hbw.size; simpa using this
    have hb11 : Below w1.heap.size w1 wr := ((Below.refl _ w1).alloc (Nat.le_refl _) _).trans (hbw.mono (by omega))
    have hbx : wr.cell? ⟨w1.heap.size, 0, none⟩ = some (.slice ao ql cp) := by
      have := hbw.block w1.heap.size (by omega)
      rw [heap_alloc_new] at this
      rw [Lib.cell_of_heap this]; rfl
    by_cases hk : k < ql
    · obtain ⟨ge, rfl, d0⟩ := HDV.out k hk
      have hge : q[k]? = some (q.getD k default) := getD_some q k (by rw [← HQL.out]; exact hk)
      obtain ⟨x, y, hxy⟩ : ∃ x y, q.getD k default = (x, y) := ⟨_, _, rfl⟩
      rw [hxy] at d0 hge
      have HG : Hid (strV ((q.take (k + 1)).map (·.1)) = strV ((q.take k).map (·.1)) ++ [.string x]) := by
        show _ = _
        rw [List.take_add_one, hge]; simp [strV]
      have c0 := cell_below hb11 d0
      have b1 : decide ((k : Int) < (ql : Int)) = true := by simp; omega
      clear hge hxy d0
      go_wp2_with (at_builtin; refine wpList_append_own _ rfl _ _ 77 rfl (w1.heap.size + 1) 9 i0 (.string ⟨#[]⟩) 1 16 Tryz.underlying77 hi hz0 hz1 hz2 rfl (by decide) _ _ _ rfl (hown.alloc _) ⟨wr.heap.size, 0, none⟩ 1 1 [.string x] rfl rfl (cell_one_new _ _ _) (by intro u hu; simp at hu; subst hu; rfl) ?c3 ?c4 ?c5 ?_)
      case c3 => unfold maxLen; omega
      case c4 => omega
      case c5 => first | omega | (simp; omega)
      intro v' w2 hown' hgrow _
      have hb2 := (hbw.alloc hbs (.cells #[.string x] 9)).grown hgrow (by simp; omega) (fun k hk => (hown.lt k hk).1)
      have hown2 : w2.ownsRow (w1.heap.size + 1) 9 1 v' (k + 1) (strV ((q.take (k + 1)).map (·.1))) := by rw [HG.out, List.map_take]; exact hown'
      clear hgrow hown hbw hown'
      go_wp2
      exact ⟨⟨k + 1, rfl, by omega, hown2, hb2⟩, by simp [intOf]; omega⟩
    · obtain rfl : k = ql := by omega
      have b1 : decide ((k : Int) < (k : Int)) = false := by simp
      rw [show q.take k = q by rw [HQL.out, List.take_length]] at hown
      have HO : Hid (wr.ownsRow (w1.heap.size + 1) 9 1 u4 k (strV (q.map (·.1)))) := hown
      have hs1 := hb1.size
      clear hown
      go_wp2
      go_ret
      refine ⟨⟨_, rfl, ?_⟩, hb1.trans (hb11.mono hs1)⟩
      rw [List.length_map, ← HQL.out]
      exact own_mono HO.out (by omega)
theorem sizeI : (Tryz.prog.info? 72).map (·.size) = some 6 := by kernel_rfl
set_option maxHeartbeats 2000000 in
theorem find_c (F : Nat → Prop) (p : Nat) (st : St) (bv dv : Value) (dvs : List Value) (name : ByteArray) (w : World) (h : RefAt F p st bv dv dvs w) (hw : Wf st) :
    Calls Tryz.prog 57 #[.pointer (some ⟨p, 0, none⟩), .string name] w fun e w' => e = .returned (.tuple #[.agg (infoV (st.find name).1.1 (st.find name).1.2), .int .i64 (st.find name).2.1, .int .i64 (st.find name).2.2]) ∧ Below w.heap.size w w' := by
  have HF : Hid (∀ w, Calls Tryz.prog 51 #[.string name] w fun e w' => e = .returned (.bool (okName name)) ∧ w' = w) := fun w => fileName_c name w
  have hbi : Below w.heap.size w (w.alloc (.cells #[.int .i64 0, .int .i64 0, .int .i64 0, .int .i64 0, .string ⟨#[]⟩, .int .i64 0] 72)) := (Below.refl _ w).alloc (Nat.le_refl _) _
  rcases hok : okName name with _ | _
  · rw [hok] at HF
    have HC : Hid (st.find name = ((⟨#[]⟩, noBd), (0, 32))) := by show _ = _; unfold St.find; rw [if_pos hok]
    clear h hw hok
    go_enter Tryz.func57, Tryz.ntmps57
    go_wp2_with (go_at_call 51; refine (HF.out _).mono ?_; rintro e w1 ⟨rfl, hw1⟩; subst w1)
    refine bodyPost_ret (results_cell_tmp2 rfl _ _ w.heap.size _ _ _ _ rfl (heap_alloc_new w _) Tryz.underlying72 rfl sizeI) rfl ?_
    rw [HC.out]
    exact ⟨rfl, hbi⟩
  · rw [hok] at HF
    have hnl := now_len hw
    obtain ⟨ql, hql⟩ : ∃ l, l = st.now.length := ⟨_, rfl⟩
    have HN : Hid (∀ wx, Below w.heap.size w wx → Calls Tryz.prog 78 #[.pointer (some ⟨p, 0, none⟩)] wx fun e w' => (∃ ao cp, e = .returned (.agg #[.slice ao ql cp]) ∧ DirO w' 0 (.slice ao ql cp) st.now ∧ ∀ k, (Value.slice ao ql cp).ownBlock = some k → F k) ∧ Below wx.heap.size wx w') := fun wx hb => now_c' F p st bv dv dvs wx (h.below hb) hw ql hql
    obtain ⟨l0, hl0⟩ : ∃ l, l = leads st.now name := ⟨_, rfl⟩
    have HLD : Hid (∀ v wx, DirO wx 0 v st.now → Calls Tryz.prog 79 #[.agg #[v], .string name] wx fun e w' => e = .returned (.int .i64 l0) ∧ Below wx.heap.size wx w') := fun v wx hd => by rw [hl0]; exact leads_c v st.now name wx hd.dirV (by omega)
    have HL0 : Hid (l0 = leads st.now name) := hl0
    by_cases hz : l0 = 0
    · have HC : Hid (st.find name = ((⟨#[]⟩, noBd), (0, 30))) := by
        show _ = _
        unfold St.find
        rw [if_neg (by rw [hok]; decide), if_pos (by rw [← hl0]; exact hz)]
      have b1 : ((l0 : Int) == 0) = true := by simp [hz]
      have HZ : Hid (l0 = 0) := hz
      clear h hw hok hql hl0 hz
      go_enter Tryz.func57, Tryz.ntmps57
      go_wp2_with (first
        | (go_at_call 51; refine (HF.out _).mono ?_; rintro e w1 ⟨rfl, hw1⟩; subst w1)
        | (go_at_call 78; refine (HN.out _ hbi).mono ?_; rintro e w1 ⟨⟨ao, cp, rfl, hd, hvF⟩, hb1⟩; have hb1' := hbi.trans (hb1.mono (by simp)))
        | (go_at_call 79; refine (HLD.out _ _ (World.ownsRow.alloc hd _)).mono ?_; rintro e w2 ⟨rfl, hb2⟩; have hs0 : w.heap.size + 1 ≤ w1.heap.size := (by have := hb1.size; simpa using this); have hk2 : w2.heap[w.heap.size]? = some (.cells #[.int .i64 0, .int .i64 0, .int .i64 0, .int .i64 0, .string ⟨#[]⟩, .int .i64 0] 72) := (by rw [hb2.block w.heap.size (by simp; omega), Lib.alloc_old _ _ w.heap.size (by omega), hb1.block w.heap.size (by simp), heap_alloc_new]); have s0 := Lib.cell_of_heap hk2 0; have s1 := Lib.cell_of_heap hk2 1; have s2 := Lib.cell_of_heap hk2 2; have s3 := Lib.cell_of_heap hk2 3; have s4 := Lib.cell_of_heap hk2 4; have s5 := Lib.cell_of_heap hk2 5; have f0 := Lib.frozen_of_heap hk2 0; have f1 := Lib.frozen_of_heap hk2 1; have f2 := Lib.frozen_of_heap hk2 2; have f3 := Lib.frozen_of_heap hk2 3; have f4 := Lib.frozen_of_heap hk2 4; have f5 := Lib.frozen_of_heap hk2 5; have hb2' := (hb1'.alloc (by omega) (.cells #[.slice ao ql cp] 105)).trans (hb2.mono (by simp; omega))))
      refine bodyPost_ret (results_cell_tmp2 rfl _ _ w.heap.size _ _ _ _ rfl (six_set hk2 _ _ _ _ _ _) Tryz.underlying72 rfl sizeI) rfl ?_
      rw [HC.out]
      exact ⟨rfl, six_below hb2' (Nat.le_refl _) _ _ _ _ _ _⟩
    · obtain ⟨i, b, hli, hbi2⟩ := leads_body hw (by rw [← hl0]; exact hz)
      have HC : Hid (st.find name = ((name, b), (i + 1, 0))) := by
        show _ = _
        unfold St.find
        rw [if_neg (by rw [hok]; decide), if_neg (by rw [← hl0]; exact hz), hli, show i + 1 - 1 = i by omega, hbi2]; rfl
      obtain rfl : l0 = i + 1 := hl0.trans hli
      obtain ⟨g, cap, hbv, hil, q0, q1, q2, q3, e4, e5⟩ := h.body i b hbi2
      have e1 : w.cell? ⟨p, 1, none⟩ = some bv := by rw [Lib.cell_of_heap h.blk]; rfl
      have hmany := hw.many
      obtain ⟨nb, hnb⟩ : ∃ n, n = st.bodies.length := ⟨_, rfl⟩
      rw [← hnb] at hbv hil hmany
      rw [hbv] at e1
      have i1 : (0 : Int) ≤ (i : Int) := by omega
      have i2 : (i : Int) < (nb : Int) := by omega
      have i5 : IntKind.i64.wrap (i : Int) = (i : Int) := wrap_i64 (by omega)
      have b1 : (((i : Int) + 1) == 0) = false := by simp; omega
      clear h hw hok hql hl0 hz hbi2 hbv hnb hli
      go_enter Tryz.func57, Tryz.ntmps57
      go_wp2_with (first
        | (go_at_call 51; refine (HF.out _).mono ?_; rintro e w1 ⟨rfl, hw1⟩; subst w1)
        | (go_at_call 78; refine (HN.out _ hbi).mono ?_; rintro e w1 ⟨⟨ao, cp, rfl, hd, hvF⟩, hb1⟩; have hb1' := hbi.trans (hb1.mono (by simp)))
        | (go_at_call 79; refine (HLD.out _ _ (World.ownsRow.alloc hd _)).mono ?_; rintro e w2 ⟨rfl, hb2⟩; have hs0 : w.heap.size + 1 ≤ w1.heap.size := (by have := hb1.size; simpa using this); have hk2 : w2.heap[w.heap.size]? = some (.cells #[.int .i64 0, .int .i64 0, .int .i64 0, .int .i64 0, .string ⟨#[]⟩, .int .i64 0] 72) := (by rw [hb2.block w.heap.size (by simp; omega), Lib.alloc_old _ _ w.heap.size (by omega), hb1.block w.heap.size (by simp), heap_alloc_new]); have hkW : (w2.alloc (.cells #[.int .i64 b.date, .int .i64 b.uid, .int .i64 b.gid, .int .i64 b.mode, .string b.data, .int .i64 b.safe] 141)).heap[w.heap.size]? = some (.cells #[.int .i64 0, .int .i64 0, .int .i64 0, .int .i64 0, .string ⟨#[]⟩, .int .i64 0] 72) := (by rw [Lib.alloc_old _ _ _ (Array.getElem?_eq_some_iff.1 hk2).1]; exact hk2); have s0 : (w2.alloc (.cells #[.int .i64 b.date, .int .i64 b.uid, .int .i64 b.gid, .int .i64 b.mode, .string b.data, .int .i64 b.safe] 141)).cell? ⟨w.heap.size, 0, none⟩ = some (.int .i64 0) := (by rw [Lib.cell_of_heap hkW]; rfl); have f0 : (w2.alloc (.cells #[.int .i64 b.date, .int .i64 b.uid, .int .i64 b.gid, .int .i64 b.mode, .string b.data, .int .i64 b.safe] 141)).frozen? ⟨w.heap.size, 0, none⟩ = false := Lib.frozen_of_heap hkW 0; have s1 : (w2.alloc (.cells #[.int .i64 b.date, .int .i64 b.uid, .int .i64 b.gid, .int .i64 b.mode, .string b.data, .int .i64 b.safe] 141)).cell? ⟨w.heap.size, 1, none⟩ = some (.int .i64 0) := (by rw [Lib.cell_of_heap hkW]; rfl); have f1 : (w2.alloc (.cells #[.int .i64 b.date, .int .i64 b.uid, .int .i64 b.gid, .int .i64 b.mode, .string b.data, .int .i64 b.safe] 141)).frozen? ⟨w.heap.size, 1, none⟩ = false := Lib.frozen_of_heap hkW 1; have s2 : (w2.alloc (.cells #[.int .i64 b.date, .int .i64 b.uid, .int .i64 b.gid, .int .i64 b.mode, .string b.data, .int .i64 b.safe] 141)).cell? ⟨w.heap.size, 2, none⟩ = some (.int .i64 0) := (by rw [Lib.cell_of_heap hkW]; rfl); have f2 : (w2.alloc (.cells #[.int .i64 b.date, .int .i64 b.uid, .int .i64 b.gid, .int .i64 b.mode, .string b.data, .int .i64 b.safe] 141)).frozen? ⟨w.heap.size, 2, none⟩ = false := Lib.frozen_of_heap hkW 2; have s3 : (w2.alloc (.cells #[.int .i64 b.date, .int .i64 b.uid, .int .i64 b.gid, .int .i64 b.mode, .string b.data, .int .i64 b.safe] 141)).cell? ⟨w.heap.size, 3, none⟩ = some (.int .i64 0) := (by rw [Lib.cell_of_heap hkW]; rfl); have f3 : (w2.alloc (.cells #[.int .i64 b.date, .int .i64 b.uid, .int .i64 b.gid, .int .i64 b.mode, .string b.data, .int .i64 b.safe] 141)).frozen? ⟨w.heap.size, 3, none⟩ = false := Lib.frozen_of_heap hkW 3; have s4 : (w2.alloc (.cells #[.int .i64 b.date, .int .i64 b.uid, .int .i64 b.gid, .int .i64 b.mode, .string b.data, .int .i64 b.safe] 141)).cell? ⟨w.heap.size, 4, none⟩ = some (.string ⟨#[]⟩) := (by rw [Lib.cell_of_heap hkW]; rfl); have f4 : (w2.alloc (.cells #[.int .i64 b.date, .int .i64 b.uid, .int .i64 b.gid, .int .i64 b.mode, .string b.data, .int .i64 b.safe] 141)).frozen? ⟨w.heap.size, 4, none⟩ = false := Lib.frozen_of_heap hkW 4; have s5 : (w2.alloc (.cells #[.int .i64 b.date, .int .i64 b.uid, .int .i64 b.gid, .int .i64 b.mode, .string b.data, .int .i64 b.safe] 141)).cell? ⟨w.heap.size, 5, none⟩ = some (.int .i64 0) := (by rw [Lib.cell_of_heap hkW]; rfl); have f5 : (w2.alloc (.cells #[.int .i64 b.date, .int .i64 b.uid, .int .i64 b.gid, .int .i64 b.mode, .string b.data, .int .i64 b.safe] 141)).frozen? ⟨w.heap.size, 5, none⟩ = false := Lib.frozen_of_heap hkW 5; have HK2 : Hid ((w2.alloc (.cells #[.int .i64 b.date, .int .i64 b.uid, .int .i64 b.gid, .int .i64 b.mode, .string b.data, .int .i64 b.safe] 141)).heap[w.heap.size]? = some (.cells #[.int .i64 0, .int .i64 0, .int .i64 0, .int .i64 0, .string ⟨#[]⟩, .int .i64 0] 72)) := hkW; clear hk2 hkW; have hb2' := (hb1'.alloc (by omega) (.cells #[.slice ao ql cp] 105)).trans (hb2.mono (by simp; omega)); have c1 := cell_below hb2' e1; have c4 := cell_below hb2' e4; have c5 := cell_below hb2' e5; have c6 := cell_below hb2' q0; have c7 := cell_below hb2' q1; have c8 := cell_below hb2' q2; have c9 := cell_below hb2' q3))
      have hs2 := hb2'.size
      refine bodyPost_ret (results_cell_tmp2 rfl _ _ w.heap.size _ _ _ _ rfl (six_set HK2.out _ _ _ _ _ _) Tryz.underlying72 rfl sizeI) rfl ?_
      rw [HC.out]
      exact ⟨rfl, six_below (hb2'.alloc hs2 _) (Nat.le_refl _) _ _ _ _ _ _⟩
end Go.Proofs.YtofmiaaglbcebaaGreatDoor
