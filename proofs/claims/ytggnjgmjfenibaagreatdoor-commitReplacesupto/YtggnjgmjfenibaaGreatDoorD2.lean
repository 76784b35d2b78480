
-- The document's volume in memory.
import Derived.Test.YtggnjgmjfenibaaGreatDoorD1
import Derived.Deep.RegionHeld3
import Derived.Deep.RegionLaw
import Derived.BigRegion
import Derived.Laws.AppendOwn
import Derived.Maps.AppendAt
namespace Go.Proofs.YtggnjgmjfenibaaGreatDoor
open Go.RowKit
set_option linter.unusedVariables false
def bodV (l : List Bd) : List Value := l.flatMap fun b => [.int .i64 b.date, .int .i64 b.uid, .int .i64 b.gid, .int .i64 b.mode, .string b.data, .int .i64 b.safe]
theorem bodV_length (l : List Bd) : (bodV l).length = l.length * 6 := by
  induction l with
  | nil => rfl
  | cons e r ih => simp only [bodV, List.flatMap_cons, List.length_append, List.length_cons, List.length_nil] at *; omega
/-- The volume's struct lies in block p, its rows in blocks of F. -/
structure RefAt (F : Nat → Prop) (p : Nat) (st : St) (bv dv : Value) (dvs : List Value) (w : World) : Prop where
  fp : F p
  blk : w.heap[p]? = some (.cells #[.int .i64 st.cap, bv, dv] 109 (0, 0))
  bod : w.ownsRow 0 141 6 bv st.bodies.length (bodV st.bodies)
  bodF : ∀ k, bv.ownBlock = some k → F k
  drs : w.ownsRow 0 105 1 dv st.dirs.length dvs
  drsF : ∀ k, dv.ownBlock = some k → F k
  ent : ∀ (i : Nat) (d : Dr), st.dirs[i]? = some d → ∃ v, dvs[i]? = some v ∧ DirO w 0 v d ∧ ∀ k, v.ownBlock = some k → F k
set_option maxHeartbeats 1000000 in
theorem now_c (F : Nat → Prop) (p : Nat) (st : St) (bv dv : Value) (dvs : List Value) (w : World) (h : RefAt F p st bv dv dvs w) (hw : Wf st) :
    Calls Tryz.prog 78 #[.pointer (some ⟨p, 0, none⟩)] w fun e w' => (∃ v, e = .returned (.agg #[v]) ∧ DirO w 0 v st.now ∧ ∀ k, v.ownBlock = some k → F k) ∧ Below w.heap.size w w' := by
  have hlen := h.drs.1
  have c2 : w.cell? ⟨p, 2, none⟩ = some dv := by rw [Lib.cell_of_heap h.blk]; rfl
  have hne := hw.ne
  obtain ⟨n, hn⟩ : ∃ n, st.dirs.length = n + 1 := by
    cases hl : st.dirs with
    | nil => exact absurd hl hne
    | cons a r => exact ⟨r.length, rfl⟩
  have hlast : st.dirs[n]? = some st.now := by
    unfold St.now
    rw [List.getLast?_eq_getElem?, hn]
    simp
    rw [List.getElem?_eq_getElem (by omega)]; rfl
  obtain ⟨v, hv, hdo, hvF⟩ := h.ent n _ hlast
  rcases h.drs.2 with ⟨_, h0⟩ | ⟨g, cap, cur, rfl, _, _⟩
  · omega
  have cn := h.drs.cells (g := g) rfl n v hv
  rw [add_lit0] at cn
  rw [hn] at c2
  have hlong := hw.long
  rw [hn] at hlong
  have HR : Hid (DirO w 0 v st.now ∧ ∀ k, v.ownBlock = some k → F k) := ⟨hdo, hvF⟩
  obtain ⟨ao, cp, rfl⟩ := own_shape hdo
  obtain ⟨ql, hql⟩ : ∃ l, l = st.now.length := ⟨_, rfl⟩
  rw [← hql] at HR cn
  clear hn hlast hv hdo hvF hne hlen hql h hw
  have k0 : (0 : Int) ≤ (n : Int) := by omega
  have k1 : (n : Int) < (n : Int) + 1 := by omega
  have k2 : IntKind.i64.wrap (n : Int) = (n : Int) := wrap_i64 (by omega)
  have hplt : p < w.heap.size := World.block_lt_of_cell? w _ c2
  have hglt : g < w.heap.size := World.block_lt_of_cell? w _ cn
  have n1 := World.new_ne w _ c2
  have n2 := World.new_ne w _ cn
  go_enter Tryz.func78, Tryz.ntmps78
  go_wp2
  go_region_held3 (fun w' => w'.cell? ⟨p, 2, none⟩ = some (.slice (some ⟨g, 0, none⟩) (n + 1) cap) ∧ w'.cell? ⟨g, n, none⟩ = some (.slice ao ql cp)) (go_keep) (fail)
  go_wp2
  refine bodyPost_ret (results_cell_row rfl _ _ w.heap.size _ _ _ _ rfl (heap_alloc_new w _) Tryz.underlying105 rfl sizeD) rfl ?_
  exact ⟨⟨_, rfl, HR.out⟩, ((Below.refl _ w).alloc (Nat.le_refl _) _).drew⟩
theorem idx (s : ByteArray) (k : Nat) (h : k < s.size) : ∀ w, (Instr.index 9 (.string s) (.int .i64 (k : Int))).run Tryz.prog w = .ok (.int .u8 (s[k].toNat : Int)) w := by
  intro w
  rw [run_index_string w 9 s .i64 k Tryz.underlying9, dif_pos (by omega)]
  simp
theorem all_at (s : ByteArray) (k : Nat) (h : k < s.size) : (s.data.toList.drop k).all okByte = (okByte s[k] && (s.data.toList.drop (k + 1)).all okByte) := by
  rw [List.drop_eq_getElem_cons (by simpa using h)]; rfl
set_option maxHeartbeats 1000000 in
theorem fileName_c (s : ByteArray) (w : World) :
    Calls Tryz.prog 51 #[.string s] w fun e w' => e = .returned (.bool (okName s)) ∧ w' = w := by
  by_cases h1 : 1 ≤ s.size
  · by_cases h2 : s.size ≤ 64
    · have b1 : decide ((s.size : Int) < 1) = false := by simp; omega
      have b2 : decide ((64 : Int) < (s.size : Int)) = false := by simp; omega
      go_enter Tryz.func51, Tryz.ntmps51
      go_wp2
      go_loop [3] (fun i => ∃ k : Nat, i = .int .i64 k ∧ k ≤ s.size ∧ okName s = (s.data.toList.drop k).all okByte) (fun i => s.size - (intOf i).toNat)
      case atStart => exact ⟨0, rfl, Nat.zero_le _, by unfold okName; simp [h1, h2]⟩
      case round =>
        obtain ⟨k, rfl, hks, hE⟩ := hrel
        by_cases hk : k < s.size
        · have hidx := idx s k hk
          have b3 : decide ((k : Int) < (s.size : Int)) = true := by simp; omega
          rw [all_at s k hk] at hE
          obtain ⟨c, hc⟩ : ∃ c, c = s[k] := ⟨_, rfl⟩
          rw [← hc] at hidx hE
          have HE : Hid (okName s = (okByte c && (s.data.toList.drop (k + 1)).all okByte)) := hE
          clear hc hE
          by_cases c1 : c = 47
          · have b4 : ((c.toNat : Int) == 47) = true := by rw [c1]; rfl
            have HR : Hid (okName s = false) := by show _ = _; rw [HE.out, c1]; rfl
            have HC : Hid (c = 47) := c1
            clear c1
            go_wp2
            go_ret
            exact ⟨by rw [HR.out]; rfl, rfl⟩
          · have b4 : ((c.toNat : Int) == 47) = false := by
              have : c.toNat ≠ 47 := fun h => c1 (UInt8.toNat_inj.1 h)
              simp; omega
            by_cases c2 : c = 0
            · have b5 : ((c.toNat : Int) == 0) = true := by rw [c2]; rfl
              have HR : Hid (okName s = false) := by show _ = _; rw [HE.out, c2]; rfl
              have HC : Hid (c = 0) := c2
              clear c2
              go_wp2
              go_ret
              exact ⟨by rw [HR.out]; rfl, rfl⟩
            · have b5 : ((c.toNat : Int) == 0) = false := by
                have : c.toNat ≠ 0 := fun h => c2 (UInt8.toNat_inj.1 h)
                simp; omega
              have HR : Hid (okName s = (s.data.toList.drop (k + 1)).all okByte) := by show _ = _; rw [HE.out]; simp [okByte, c1, c2]
              go_wp2
              exact ⟨⟨k + 1, rfl, by omega, HR.out⟩, by simp [intOf]; omega⟩
        · obtain rfl : k = s.size := by omega
          have b3 : decide ((s.size : Int) < (s.size : Int)) = false := by simp
          have HR : Hid (okName s = true) := by
            show _ = _
            rw [hE, show s.data.toList.drop s.size = [] from List.drop_eq_nil_of_le (by simp)]; rfl
          clear hE
          go_wp2
          go_ret
          exact ⟨by rw [HR.out]; rfl, rfl⟩
    · have b1 : decide ((s.size : Int) < 1) = false := by simp; omega
      have b2 : decide ((64 : Int) < (s.size : Int)) = true := by simp; omega
      have HR : Hid (okName s = false) := by show _ = _; unfold okName; simp [h2]
      clear h1 h2
      go_enter Tryz.func51, Tryz.ntmps51
      go_wp2
      go_ret
      exact ⟨by rw [HR.out]; rfl, rfl⟩
  · have b1 : decide ((s.size : Int) < 1) = true := by simp; omega
    have HR : Hid (okName s = false) := by show _ = _; unfold okName; simp [h1]
    clear h1
    go_enter Tryz.func51, Tryz.ntmps51
    go_wp2
    go_ret
    exact ⟨by rw [HR.out]; rfl, rfl⟩
theorem RefAt.same {F : Nat → Prop} {p : Nat} {st : St} {bv dv : Value} {dvs : List Value} {w w' : World} (h : RefAt F p st bv dv dvs w) (hk : ∀ k, F k → k < w.heap.size → w'.heap[k]? = w.heap[k]?) : RefAt F p st bv dv dvs w' where
  fp := h.fp
  blk := by rw [hk p h.fp (Array.getElem?_eq_some_iff.1 h.blk).1]; exact h.blk
  bod := own_keep h.bod fun k e => hk k (h.bodF k e) (h.bod.lt k e).2
  bodF := h.bodF
  drs := own_keep h.drs fun k e => hk k (h.drsF k e) (h.drs.lt k e).2
  drsF := h.drsF
  ent := fun i d hi => by
    obtain ⟨v, h1, h2, h3⟩ := h.ent i d hi
    exact ⟨v, h1, own_keep h2 fun k e => hk k (h3 k e) (World.ownsRow.lt h2 k e).2, h3⟩
theorem RefAt.below {F : Nat → Prop} {p : Nat} {st : St} {bv dv : Value} {dvs : List Value} {w w' : World} (h : RefAt F p st bv dv dvs w) (hb : Below w.heap.size w w') : RefAt F p st bv dv dvs w' :=
  h.same fun k _ hk => hb.block k hk
theorem step_append_at {P : Program} {ops : Array Oper} {o : Oper} {a : Act} {w : World} {K : Act → World → Prop} {Q : Exit → Act → World → Prop} {E : Prop}
    (hg : o.guard = none) (s x : Operand) (t : TypeId) (hop : o.op = Op.call { callee := Callee.builtin Builtin.append, args := #[s, x], argTypes := #[t, t] })
    (base : Nat) (e : TypeId) (i : TypeInfo) (z : Value) (size bytes : Nat) (h1 : P.underlying t = some (.slice e)) (h2 : P.info? e = some i) (h3 : i.zero = some z) (h4 : i.size = size) (h5 : i.bytes = bytes) (h6 : z.cells.size = size) (h7 : 0 < size)
    (v : Value) (n : Nat) (xs : List Value) (hs : a.eval s = v) (hown : w.ownsRow base e size v n xs)
    (ad : Addr) (m c : Nat) (news : List Value) (hx : a.eval x = .slice (some ad) m c) (hn : news.length = m * size) (hc : ∀ j u, news[j]? = some u → w.cell? (ad.add j) = some u) (h1c : ∀ u ∈ news, u.oneCell' = true)
    (b1 : n + m ≤ maxLen) (b2 : (n + m) * bytes ≤ 140737488355328) (hB : base ≤ w.heap.size)
    (hK : ∀ v' w', w'.ownsRow base e size v' (n + m) (xs ++ news) → w.grownBy w' v.ownBlock → (v'.ownBlock = v.ownBlock ∨ v'.ownBlock = some w.heap.size) → K (a.put o.dst v') w') :
    if Region.wanted o (yielded ops a.tmps) = true then Oper.wp P o a w K Q else E := by
  have hw : Region.wanted o (yielded ops a.tmps) = true := by simp [Region.wanted, hg]
  rw [if_pos hw]
  obtain ⟨v', w', hrun, r1, r2, _, r3⟩ := run_append_own_at (P := P) w base t o.type e i z size bytes h1 h2 h3 h4 h5 h6 h7 v n xs hown ad m c news hn hc h1c b1 b2 hB
  unfold Oper.wp
  simp [execOp, hop, resolve, invoke, builtin, hs, hx, hrun, Result.andThen]
  exact hK v' w' r1 r2 r3
theorem infoDir : (Tryz.prog.info? 105).map (fun i => (i.zero, i.size, i.bytes)) = some (some (.agg #[.slice none 0 0]), 1, 24) := by kernel_rfl
theorem infoBody : (Tryz.prog.info? 141).map (fun i => (i.zero, i.size, i.bytes)) = some (some (.agg #[.int .i64 0, .int .i64 0, .int .i64 0, .int .i64 0, .string ⟨#[]⟩, .int .i64 0]), 6, 56) := by kernel_rfl
/-- A change more: what the memory is behind it. -/
theorem RefAt.changed {F : Nat → Prop} {p : Nat} {st : St} {bv dv : Value} {dvs : List Value} {w w2 : World} {o o' : Obj} {v v' : Value} {d : Dr} (h : RefAt F p st bv dv dvs w) (hd : DirO w 0 v d) (hdF : ∀ k, v.ownBlock = some k → F k)
    (hown : w2.ownsRow 0 105 1 v' (st.dirs.length + 1) (dvs ++ [v])) (hg : ((w.alloc o).alloc o').grownBy w2 dv.ownBlock) (hv' : v'.ownBlock = dv.ownBlock ∨ v'.ownBlock = some ((w.alloc o).alloc o').heap.size) :
    RefAt (ext F w (w2.setCell ⟨p, 2, none⟩ v')) p { st with dirs := st.dirs ++ [d] } bv v' (dvs ++ [v]) (w2.setCell ⟨p, 2, none⟩ v') ∧ Kp F w (w2.setCell ⟨p, 2, none⟩ v') := by
  have hp := (Array.getElem?_eq_some_iff.1 h.blk).1
  have hsz : w.heap.size + 2 ≤ w2.heap.size := by have := hg.size; simpa using this
  have hss : (w2.setCell ⟨p, 2, none⟩ v').heap.size = w2.heap.size := by simp [World.setCell]
  have old : ∀ k, k < w.heap.size → some k ≠ dv.ownBlock → w2.heap[k]? = w.heap[k]? := fun k hk hn => by
    rw [hg.block k (by simp; omega) hn, Lib.alloc_old _ _ k (by simp; omega), Lib.alloc_old _ _ k hk]
  have hpd : some p ≠ dv.ownBlock := fun e => by
    obtain ⟨cur, hc⟩ := own_typed h.drs e.symm
    exact typed_ne h.blk hc (by decide) rfl
  have set : ∀ k, k ≠ p → (w2.setCell ⟨p, 2, none⟩ v').heap[k]? = w2.heap[k]? := fun k hk => Below.heap_setCell _ _ _ _ hk
  have keep : ∀ k, k < w.heap.size → k ≠ p → some k ≠ dv.ownBlock → (w2.setCell ⟨p, 2, none⟩ v').heap[k]? = w.heap[k]? := fun k h1 h2 h3 => (set k h2).trans (old k h1 h3)
  have b2 : w2.heap[p]? = some (.cells #[.int .i64 st.cap, bv, dv] 109 (0, 0)) := (old p hp hpd).trans h.blk
  have keepO : ∀ {B n e size u xs}, w.ownsRow B e size u n xs → e ≠ 109 → e ≠ 105 → ∀ k, u.ownBlock = some k → (w2.setCell ⟨p, 2, none⟩ v').heap[k]? = w.heap[k]? := by
    intro B n e size u xs ho n1 n2 k hk
    obtain ⟨cur, hc⟩ := own_typed ho hk
    refine keep k (ho.lt k hk).2 (fun e' => ?_) (fun e' => ?_)
    · exact typed_ne hc h.blk n1 e'
    · obtain ⟨cur', hc'⟩ := own_typed h.drs e'.symm
      exact typed_ne hc hc' n2 rfl
  refine ⟨⟨.inl h.fp, ?_, own_keep h.bod (keepO h.bod (by decide) (by decide)), fun k e => .inl (h.bodF k e), ?_, ?_, ?_⟩, ?_⟩
  · rw [blk_set b2]; rfl
  · rw [List.length_append]
    refine own_keep hown fun k hk => set k fun e => ?_
    obtain ⟨cur, hc⟩ := own_typed hown hk
    exact typed_ne hc b2 (by decide) e
  · intro k hk
    rcases hv' with h' | h'
    · exact .inl (h.drsF k (h' ▸ hk))
    · refine .inr ⟨?_, by rw [hss]; exact (hown.lt k hk).2⟩
      rw [h'] at hk; cases hk; simp; omega
  · intro i d' hi
    have key : ∀ u d'', DirO w 0 u d'' → (∀ k, u.ownBlock = some k → F k) → DirO (w2.setCell ⟨p, 2, none⟩ v') 0 u d'' ∧ ∀ k, u.ownBlock = some k → ext F w (w2.setCell ⟨p, 2, none⟩ v') k :=
      fun u d'' h1 h2 => ⟨own_keep h1 (keepO h1 (by decide) (by decide)), fun k e => .inl (h2 k e)⟩
    have hl : dvs.length = st.dirs.length := by have := h.drs.1; omega
    rcases Nat.lt_or_ge i st.dirs.length with h' | h'
    · rw [List.getElem?_append_left h'] at hi
      obtain ⟨u, h1, h2, h3⟩ := h.ent i d' hi
      exact ⟨u, by rw [List.getElem?_append_left (by omega)]; exact h1, key u d' h2 h3⟩
    · rw [List.getElem?_append_right h'] at hi
      have h0 : i - st.dirs.length = 0 := by
        rcases Nat.eq_zero_or_pos (i - st.dirs.length) with h0 | h0
        · exact h0
        · rw [List.getElem?_eq_none (by simp; omega)] at hi; cases hi
      rw [h0] at hi; simp at hi; subst hi
      refine ⟨v, ?_, key v d hd hdF⟩
      rw [List.getElem?_append_right (by omega), show i - dvs.length = 0 by omega]; rfl
  · refine ⟨hg.os, hg.tape, hg.output, by rw [hss]; omega, fun k hk hF => keep k hk (fun e => hF (e ▸ h.fp)) (fun e => hF (h.drsF k e.symm))⟩
set_option maxHeartbeats 1000000 in
theorem change_c (F : Nat → Prop) (p : Nat) (st : St) (bv dv : Value) (dvs : List Value) (v : Value) (d : Dr) (w : World) (h : RefAt F p st bv dv dvs w) (hw : st.dirs.length ≤ 2097152) (hd : DirO w 0 v d) (hdF : ∀ k, v.ownBlock = some k → F k) :
    Calls Tryz.prog 82 #[.pointer (some ⟨p, 0, none⟩), .agg #[v]] w fun e w' => e = .returned (.tuple #[]) ∧ ∃ dv', RefAt (ext F w w') p { st with dirs := st.dirs ++ [d] } bv dv' (dvs ++ [v]) w' ∧ Kp F w w' := by
  obtain ⟨i0, hi, hz0, hz1, hz2⟩ := info_parts infoDir
  have hlt : p < w.heap.size := (Array.getElem?_eq_some_iff.1 h.blk).1
  have c2 : w.cell? ⟨p, 2, none⟩ = some dv := by rw [Lib.cell_of_heap h.blk]; rfl
  have HH : Hid (RefAt F p st bv dv dvs w) := h
  have HL : Hid (st.dirs.length ≤ 2097152) := hw
  have HD : Hid (DirO w 0 v d ∧ ∀ k, v.ownBlock = some k → F k) := ⟨hd, hdF⟩
  obtain ⟨ao, cp, rfl⟩ := own_shape hd
  obtain ⟨ql, hql⟩ : ∃ l, l = d.length := ⟨_, rfl⟩
  rw [← hql] at HD ⊢
  have hpd : some p ≠ dv.ownBlock := fun e => by
    obtain ⟨cur, hc⟩ := own_typed h.drs e.symm
    exact typed_ne h.blk hc (by decide) rfl
  have HP : Hid (some p ≠ dv.ownBlock) := hpd
  clear h hw hd hdF hql hpd
  go_enter Tryz.func82, Tryz.ntmps82
  go_wp2
  go_region_law (refine step_append_at rfl (.tmp 8) (.tmp 10) 106 rfl 0 105 i0 (.agg #[.slice none 0 0]) 1 24 Tryz.underlying106 hi hz0 hz1 hz2 rfl (by decide) dv st.dirs.length dvs (by simp [Act.eval]) (by exact (HH.out.drs.alloc _).alloc _) ⟨w.heap.size + 1, 0, none⟩ 1 1 [.slice ao ql cp] (by simp [Act.eval]) rfl (one_new _ _ _ (by simp)) (by intro u hu; simp at hu; subst hu; rfl) (by have := HL.out; unfold maxLen; omega) (by have := HL.out; omega) (Nat.zero_le _) ?_; intro v' w2 hown' hgrow hwh; obtain ⟨ao2, cap2, rfl⟩ := own_shape hown'; have hb2 : w2.heap[p]? = some (.cells #[.int .i64 st.cap, bv, dv] 109 (0, 0)) := ((hgrow.block p (by simp; omega) HP.out).trans ((Lib.alloc_old _ _ p (by simp; omega)).trans (Lib.alloc_old w _ p hlt))).trans HH.out.blk; have d2 : w2.cell? ⟨p, 2, none⟩ = some dv := (by rw [Lib.cell_of_heap hb2]; rfl); have f2 := Lib.frozen_of_heap hb2 2)
  all_goals
    go_wp2
    go_end0
    have R := RefAt.changed (o := .cells #[.slice ao ql cp] 105) (o' := .cells #[.slice ao ql cp] 105) HH.out HD.out.1 HD.out.2 hown' ⟨hgrow.os, hgrow.tape, hgrow.output, hgrow.size, hgrow.block⟩ hwh
    exact ⟨rfl, _, R⟩
end Go.Proofs.YtggnjgmjfenibaaGreatDoor
