-- The program's helpers: a change of a directory, and what is done to the volume's maps.
import Derived.Test.YtodjgbmfmpbkjabV3
import Derived.Test.YtodjgbmfmpbkjabV4
import Derived.Deep.RegionWith
import Derived.Deep.RegionLaw
import Derived.Deep.RegionHeld3
namespace Go.Proofs.Ytodjgbmfmpbkjab
open Go.RowKit
set_option linter.unusedVariables false
theorem zero3 (w : World) : (zeroValue 3).run Try.prog w = .ok (.int .i64 0) w := Try.zeroValue3 w
theorem Kp.refl (F : Nat → Prop) (w : World) : Kp F w w := ⟨rfl, rfl, rfl, Nat.le_refl _, fun _ _ _ => rfl⟩
theorem Kp.wide {F G : Nat → Prop} {w w' : World} (h : Kp F w w') (hG : ∀ k, F k → G k) : Kp G w w' := ⟨h.os, h.tape, h.output, h.size, fun k hk hn => h.block k hk (fun e => hn (hG k e))⟩
theorem Kp.turned {b : Nat} {w w' : World} (h : Turned w w' b) : Kp (fun k => k = b) w w' := h.kp rfl
set_option maxHeartbeats 4000000 in
theorem apply_c (c : Chg) (b : Nat) (d : Dr) (w : World) (h : MapAt .string w b (dv d)) :
    Calls Try.prog 46 #[.agg #[.string c.fr, .string c.to, .int .i64 c.num], .map (some b)] w fun e w' => e = .returned (.tuple #[]) ∧ MapAt .string w' b (dv (c.app d)) ∧ Kp (fun k => k = b) w w' := by
  obtain ⟨fr, to, num⟩ := c
  obtain ⟨X, hX⟩ : ∃ X, X = Obj.cells #[.string fr, .string to, .int .i64 num] 77 := ⟨_, rfl⟩
  have hlt := h.lt
  have h1 : MapAt .string (w.alloc X) b (dv d) := h.keep (Lib.alloc_old w _ b hlt)
  obtain ⟨w2, hr2, h2, ht2⟩ := dv_drop (P := Try.prog) (t := 62) (k := 9) (e := 3) h1 Try.underlying62 Try.underlying9 fr 0
  have hs2 := ht2.size
  have hx2 : w2.heap[w.heap.size]? = some (.cells #[.string fr, .string to, .int .i64 num] 77) := by
    rw [ht2.other (by omega), heap_alloc_new, hX]
  have c0 : (w.alloc X).cell? ⟨w.heap.size, 0, none⟩ = some (.string fr) := by rw [Lib.cell_of_heap (by rw [heap_alloc_new, hX])]; rfl
  have c1 : w2.cell? ⟨w.heap.size, 1, none⟩ = some (.string to) := by rw [Lib.cell_of_heap hx2]; rfl
  have c2 : w2.cell? ⟨w.heap.size, 2, none⟩ = some (.int .i64 num) := by rw [Lib.cell_of_heap hx2]; rfl
  have hk2 : Kp (fun k => k = b) w w2 := (Kp.of_below (F := fun k => k = b) ((Below.refl _ w).alloc (Nat.le_refl _) X)).trans (Kp.turned ht2)
  by_cases h0 : to = ⟨#[]⟩
  · subst h0
    have HE : Hid ((⟨fr, ⟨#[]⟩, num⟩ : Chg).app d = without d fr) := by show Chg.app _ d = _; unfold Chg.app; simp
    have HK : Hid (MapAt .string w2 b (dv (without d fr)) ∧ Kp (fun k => k = b) w w2) := ⟨h2, hk2⟩
    rw [HE.out]
    clear h h1 h2 ht2 hs2 hx2 hk2 HE hlt
    subst hX
    go_enter Try.func46, Try.ntmps46
    go_wp2_with (at_delete; refine wp_delete _ rfl _ _ 62 9 rfl _ _ rfl rfl w2 hr2 ?_)
    go_end0
    exact ⟨rfl, HK.out⟩
  · obtain ⟨w3, hr3, h3, ht3⟩ := dv_store (P := Try.prog) (t := 62) (k := 9) (e := 3) h2 Try.underlying62 Try.underlying9 to num
    have HE : Hid ((⟨fr, to, num⟩ : Chg).app d = with_ (without d fr) to num) := by show Chg.app _ d = _; unfold Chg.app; simp [h0]
    have HK : Hid (MapAt .string w3 b (dv (with_ (without d fr) to num)) ∧ Kp (fun k => k = b) w w3) := ⟨h3, hk2.trans (Kp.turned ht3)⟩
    rw [HE.out]
    have hne : to.toList.isEmpty = false := by
      cases h : to.toList with
      | nil => exact absurd h (empty_no h0)
      | cons _ _ => rfl
    have hne2 := empty_no h0
    clear h h1 h2 ht2 hs2 hx2 hk2 HE hlt h3 ht3 h0
    subst hX
    go_enter Try.func46, Try.ntmps46
    go_wp2_with (first | (at_delete; refine wp_delete _ rfl _ _ 62 9 rfl _ _ rfl rfl w2 hr2 ?_) | (at_mapUpdate; refine wp_store _ rfl _ _ _ 62 rfl _ _ _ rfl rfl rfl w3 hr3 ?_))
    go_end0
    exact ⟨rfl, HK.out⟩
/-- The volume, its four maps made. -/
structure RN (F : Nat → Prop) (p cap made : Nat) (now d0 : Dr) (cs : List Chg) (T K : List (Nat × Nat)) (bs : List Bd) (w : World) (bd bf bt bk : Nat) (vp : Value) : Prop where
  blk : w.heap[p]? = some (.cells (diskV cap made (.map (some bd)) (.map (some bf)) (.map (some bt)) (.map (some bk)) vp) 66 (0, 0))
  fp : F p
  f1 : F bd
  f2 : F bf
  f3 : F bt
  f4 : F bk
  n1 : bd ≠ bf
  n2 : bd ≠ bt
  n3 : bd ≠ bk
  n4 : bf ≠ bt
  n5 : bf ≠ bk
  n6 : bt ≠ bk
  m1 : MapAt .string w bd (dv now)
  m2 : MapAt .string w bf (dv d0)
  m3 : MapAt (.int .i64) w bt (bv T)
  m4 : MapAt (.int .i64) w bk (bv K)
  row : w.ownsRow 0 77 3 vp cs.length (chgV cs)
  rowF : ∀ k, vp.ownBlock = some k → F k
  bod : Bods F w bs (T ++ K)
section
variable {F : Nat → Prop} {p cap made : Nat} {now d0 : Dr} {cs : List Chg} {T K : List (Nat × Nat)} {bs : List Bd} {w : World} {bd bf bt bk : Nat} {vp : Value}
theorem RN.raw (h : RN F p cap made now d0 cs T K bs w bd bf bt bk vp) : Raw F p cap made now d0 cs T K bs w :=
  ⟨_, _, _, _, vp, h.blk, h.fp, .inr ⟨bd, bf, bt, bk, rfl, rfl, rfl, rfl, h.f1, h.f2, h.f3, h.f4, h.n1, h.n2, h.n3, h.n4, h.n5, h.n6, h.m1, h.m2, h.m3, h.m4⟩, h.row, h.rowF, h.bod, by simp⟩
theorem RN.cells (h : RN F p cap made now d0 cs T K bs w bd bf bt bk vp) : w.cell? ⟨p, 0, none⟩ = some (.int .i64 cap) ∧ w.cell? ⟨p, 1, none⟩ = some (.int .i64 made) ∧ w.cell? ⟨p, 2, none⟩ = some (.map (some bd)) ∧ w.cell? ⟨p, 3, none⟩ = some (.map (some bf)) ∧ w.cell? ⟨p, 4, none⟩ = some (.map (some bt)) ∧ w.cell? ⟨p, 5, none⟩ = some (.map (some bk)) ∧ w.cell? ⟨p, 6, none⟩ = some vp := by
  refine ⟨?_, ?_, ?_, ?_, ?_, ?_, ?_⟩ <;> (rw [Lib.cell_of_heap h.blk]; rfl)
theorem RN.lt (h : RN F p cap made now d0 cs T K bs w bd bf bt bk vp) : p < w.heap.size := blk_lt h.blk
theorem RN.keep {G : Nat → Prop} {w' : World} (h : RN F p cap made now d0 cs T K bs w bd bf bt bk vp) (hk : ∀ k, F k → k < w.heap.size → w'.heap[k]? = w.heap[k]?) (hG : ∀ k, F k → G k) : RN G p cap made now d0 cs T K bs w' bd bf bt bk vp where
  blk := (hk p h.fp h.lt).trans h.blk
  fp := hG _ h.fp
  f1 := hG _ h.f1
  f2 := hG _ h.f2
  f3 := hG _ h.f3
  f4 := hG _ h.f4
  n1 := h.n1
  n2 := h.n2
  n3 := h.n3
  n4 := h.n4
  n5 := h.n5
  n6 := h.n6
  m1 := h.m1.keep (hk _ h.f1 h.m1.lt)
  m2 := h.m2.keep (hk _ h.f2 h.m2.lt)
  m3 := h.m3.keep (hk _ h.f3 h.m3.lt)
  m4 := h.m4.keep (hk _ h.f4 h.m4.lt)
  row := own_keep h.row fun k hk' => hk k (h.rowF k hk') (by obtain ⟨cur, hh⟩ := own_typed h.row hk'; exact blk_lt hh)
  rowF := fun k hk' => hG _ (h.rowF k hk')
  bod := h.bod.keep (fun e he k hk' => by
    rcases hk' with rfl | hk'
    · exact hk _ (h.bod.own e he).1 (h.bod.lt he).1
    · exact hk k ((h.bod.own e he).2 k hk') ((h.bod.lt he).2 k hk')) hG
/-- Blocks of cells and of maps are apart. -/
theorem RN.apart (h : RN F p cap made now d0 cs T K bs w bd bf bt bk vp) {b : Nat} {d : TypeDesc} {l : Prs} (hb : MapAt d w b l) : p ≠ b ∧ (∀ k, vp.ownBlock = some k → k ≠ b) ∧ ∀ e ∈ T ++ K, ∀ k, (k = e.2 ∨ bufOf w e.2 = some k) → k ≠ b := by
  refine ⟨fun e => hb.ne_cells h.blk e.symm, fun k hk => ?_, fun e he k hk => ?_⟩
  · obtain ⟨cur, hh⟩ := own_typed h.row hk; exact fun e => hb.ne_cells hh e.symm
  · obtain ⟨i, x, _, _, hx⟩ := h.bod.at_ e he
    rcases hk with rfl | hk
    · obtain ⟨c, hh⟩ := hx.blk; exact fun e => hb.ne_cells hh e.symm
    · obtain ⟨c, fz, hh⟩ := hx.buf hk; exact fun e => hb.ne_cells hh e.symm
theorem RN.turn {w' : World} {now' d0' : Dr} {T' K' : List (Nat × Nat)} (h : RN F p cap made now d0 cs T K bs w bd bf bt bk vp) {b : Nat} {d : TypeDesc} {l : Prs} (hb : MapAt d w b l) (hk : ∀ k, k < w.heap.size → k ≠ b → w'.heap[k]? = w.heap[k]?)
    (m1 : MapAt .string w' bd (dv now')) (m2 : MapAt .string w' bf (dv d0')) (m3 : MapAt (.int .i64) w' bt (bv T')) (m4 : MapAt (.int .i64) w' bk (bv K')) (hs : ∀ e ∈ T' ++ K', e ∈ T ++ K) : RN F p cap made now' d0' cs T' K' bs w' bd bf bt bk vp := by
  obtain ⟨a1, a2, a3⟩ := h.apart hb
  exact ⟨(hk p h.lt a1).trans h.blk, h.fp, h.f1, h.f2, h.f3, h.f4, h.n1, h.n2, h.n3, h.n4, h.n5, h.n6, m1, m2, m3, m4, own_keep h.row fun k hk' => hk k (by obtain ⟨cur, hh⟩ := own_typed h.row hk'; exact blk_lt hh) (a2 k hk'), h.rowF,
    (h.bod.keep (fun e he k hk' => hk k (by
      rcases hk' with rfl | hk'
      · exact (h.bod.lt he).1
      · exact (h.bod.lt he).2 k hk') (a3 e he k hk')) fun _ h => h).sub hs⟩
end
/-- An append whose answer lies where it lay, or in a new block. -/
theorem info_chg : (Try.prog.info? 77).map (fun i => (i.zero, i.size, i.bytes)) = some (some (.agg #[.string ⟨#[]⟩, .string ⟨#[]⟩, .int .i64 0]), 3, 40) := by kernel_rfl
theorem chgV_snoc (cs : List Chg) (c : Chg) : chgV (cs ++ [c]) = chgV cs ++ [.string c.fr, .string c.to, .int .i64 c.num] := by simp [chgV, Chg.vs]
theorem step_app {P : Program} {ops : Array Oper} {o : Oper} {a : Act} {w : World} {K : Act → World → Prop} {Q : Exit → Act → World → Prop} {E : Prop}
    (hg : o.guard = none) (s x : Operand) (t : TypeId) (hop : o.op = Op.call { callee := Callee.builtin Builtin.append, args := #[s, x], argTypes := #[t, t] })
    (base : Nat) (e : TypeId) (i : TypeInfo) (z : Value) (size bytes : Nat) (h1 : P.underlying t = some (.slice e)) (h2 : P.info? e = some i) (h3 : i.zero = some z) (h4 : i.size = size) (h5 : i.bytes = bytes) (h6 : z.cells.size = size) (h7 : 0 < size)
    (v : Value) (n : Nat) (xs : List Value) (hs : a.eval s = v) (hown : w.ownsRow base e size v n xs)
    (ad : Addr) (m c : Nat) (news : List Value) (hx : a.eval x = .slice (some ad) m c) (hn : news.length = m * size) (hc : ∀ j u, news[j]? = some u → w.cell? (ad.add j) = some u) (h1c : ∀ u ∈ news, u.oneCell' = true)
    (b1 : n + m ≤ maxLen) (b2 : (n + m) * bytes ≤ 140737488355328) (hB : base ≤ w.heap.size)
    (hK : ∀ v' w', w'.ownsRow base e size v' (n + m) (xs ++ news) → w.grownBy w' v.ownBlock → (v'.ownBlock = v.ownBlock ∨ v'.ownBlock = some w.heap.size) → K (a.put o.dst v') w') :
    if Region.wanted o (yielded ops a.tmps) = true then Oper.wp P o a w K Q else E := by
  have hw : Region.wanted o (yielded ops a.tmps) = true := by simp [Region.wanted, hg]
  rw [if_pos hw]
  obtain ⟨v', w', hrun, r1, r2, _, r3⟩ := run_append_own_at (P := P) w base t o.type e i z size bytes h1 h2 h3 h4 h5 h6 h7 v n xs hown ad m c news hn hc h1c b1 b2 hB
  unfold Oper.wp
  simp [execOp, hop, resolve, invoke, builtin, hs, hx, hrun, Result.andThen]
  exact hK v' w' r1 r2 r3
theorem three_new (w : World) (a b c : Value) (t : TypeId) {n : Nat} (hn : w.heap.size = n) : ∀ j u, [a, b, c][j]? = some u → (w.alloc (.cells #[a, b, c] t)).cell? ((⟨n, 0, none⟩ : Addr).add j) = some u := by
  subst hn
  intro j u hj
  rw [add_lit0, Lib.cell_of_heap (heap_alloc_new w _)]
  simpa using hj
theorem RN.noted {F : Nat → Prop} {p cap made : Nat} {now d0 : Dr} {cs : List Chg} {T K : List (Nat × Nat)} {bs : List Bd} {w w3 : World} {bd bf bt bk : Nat} {vp v' : Value} {o : Obj} (c : Chg) (h : RN F p cap made now d0 cs T K bs w bd bf bt bk vp)
    (hown : w3.ownsRow 0 77 3 v' (cs.length + 1) (chgV (cs ++ [c]))) (hg : (w.alloc o).grownBy w3 vp.ownBlock) (hv' : v'.ownBlock = vp.ownBlock ∨ v'.ownBlock = some (w.alloc o).heap.size) :
    RN (ext F w (w3.setCell ⟨p, 6, none⟩ v')) p cap made now d0 (cs ++ [c]) T K bs (w3.setCell ⟨p, 6, none⟩ v') bd bf bt bk v' ∧ Kp F w (w3.setCell ⟨p, 6, none⟩ v') := by
  have hs3 : w.heap.size + 1 ≤ w3.heap.size := by have := hg.size; simpa using this
  have hse : (w3.setCell ⟨p, 6, none⟩ v').heap.size = w3.heap.size := by simp [World.setCell]
  have hnp : ∀ k, vp.ownBlock = some k → k ≠ p := fun k hk e => by
    obtain ⟨cur, hh⟩ := own_typed h.row hk
    exact typed_ne hh h.blk (by decide) e
  have hsame : ∀ k, k < w.heap.size → vp.ownBlock ≠ some k → w3.heap[k]? = w.heap[k]? := fun k hk hv => (hg.block k (by simp; omega) (fun e => hv e.symm)).trans (Lib.alloc_old w o k hk)
  have hsame2 : ∀ k, k < w.heap.size → k ≠ p → vp.ownBlock ≠ some k → (w3.setCell ⟨p, 6, none⟩ v').heap[k]? = w.heap[k]? := fun k hk hkp hv => (Below.heap_setCell _ _ _ _ hkp).trans (hsame k hk hv)
  have hp3 : w3.heap[p]? = some (.cells (diskV cap made (.map (some bd)) (.map (some bf)) (.map (some bt)) (.map (some bk)) vp) 66 (0, 0)) := (hsame p h.lt (fun e => hnp p e rfl)).trans h.blk
  have hmk : ∀ {b : Nat} {d : TypeDesc} {l : Prs}, MapAt d w b l → (w3.setCell ⟨p, 6, none⟩ v').heap[b]? = w.heap[b]? := fun {b d l} hb => by
    obtain ⟨a1, a2, _⟩ := h.apart hb
    exact hsame2 b hb.lt (fun e => a1 e.symm) (fun e => a2 b e rfl)
  have hv'p : ∀ k, v'.ownBlock = some k → k ≠ p := fun k hk => by
    obtain ⟨cur, hh⟩ := own_typed hown hk
    exact fun e => typed_ne hh hp3 (by decide) e
  refine ⟨⟨blk_set hp3 v', .inl h.fp, .inl h.f1, .inl h.f2, .inl h.f3, .inl h.f4, h.n1, h.n2, h.n3, h.n4, h.n5, h.n6, h.m1.keep (hmk h.m1), h.m2.keep (hmk h.m2), h.m3.keep (hmk h.m3), h.m4.keep (hmk h.m4), ?_, ?_, h.bod.keep (fun e he k hk => ?_) fun k hk => .inl hk⟩, hg.os, hg.tape, hg.output, by omega, fun k hk hF => hsame2 k hk (fun e => hF (e ▸ h.fp)) (fun e => hF (h.rowF k e))⟩
  · rw [List.length_append]
    exact own_keep hown fun k hk => Below.heap_setCell _ _ _ _ (hv'p k hk)
  · intro k hk
    rcases hv' with e | e
    · exact .inl (h.rowF k (by rw [← e]; exact hk))
    · rw [e] at hk
      have hk' : w.heap.size + 1 = k := by simpa using hk
      have : k < w3.heap.size := by
        obtain ⟨cur, hh⟩ := own_typed hown (show v'.ownBlock = some k by rw [e]; exact hk)
        exact blk_lt hh
      exact .inr ⟨by omega, by omega⟩
  · obtain ⟨i, x, _, _, hx⟩ := h.bod.at_ e he
    rcases hk with rfl | hk
    · obtain ⟨cur, hh⟩ := hx.blk
      refine hsame2 _ (blk_lt hh) (fun e1 => typed_ne hh h.blk (by decide) e1) (fun e1 => ?_)
      obtain ⟨cur', hh'⟩ := own_typed h.row e1
      exact typed_ne hh hh' (by decide) rfl
    · obtain ⟨cur, fz, hh⟩ := hx.buf hk
      refine hsame2 _ (blk_lt hh) (fun e1 => typed_ne hh h.blk (by decide) e1) (fun e1 => ?_)
      obtain ⟨cur', hh'⟩ := own_typed h.row e1
      exact typed_ne hh hh' (by decide) rfl
set_option maxHeartbeats 4000000 in
theorem note_c (c : Chg) (F : Nat → Prop) (p cap made : Nat) (now d0 : Dr) (cs : List Chg) (T K : List (Nat × Nat)) (bs : List Bd) (w : World) (bd bf bt bk : Nat) (vp : Value) (h : RN F p cap made now d0 cs T K bs w bd bf bt bk vp) (hl : cs.length ≤ 2097152) :
    Calls Try.prog 27 #[.pointer (some ⟨p, 0, none⟩), .agg #[.string c.fr, .string c.to, .int .i64 c.num]] w fun e w' => e = .returned (.tuple #[]) ∧ Raw (ext F w w') p cap made (c.app now) d0 (cs ++ [c]) T K bs w' ∧ Kp F w w' := by
  obtain ⟨i0, hi, hz0, hz1, hz2⟩ := info_parts info_chg
  obtain ⟨X, hX⟩ : ∃ X, X = Obj.cells #[.string c.fr, .string c.to, .int .i64 c.num] 77 := ⟨_, rfl⟩
  have hbA : Below w.heap.size w (w.alloc X) := (Below.refl _ w).alloc (Nat.le_refl _) X
  have hA : RN F p cap made now d0 cs T K bs (w.alloc X) bd bf bt bk vp := h.keep (fun k _ hk => hbA.block k hk) fun _ h => h
  have HAP : Hid (∀ W, MapAt .string W bd (dv now) → Calls Try.prog 46 #[.agg #[.string c.fr, .string c.to, .int .i64 c.num], .map (some bd)] W fun e w' => e = .returned (.tuple #[]) ∧ MapAt .string w' bd (dv (c.app now)) ∧ Kp (fun k => k = bd) W w') := fun W hW => apply_c c bd now W hW
  have HA : Hid (RN F p cap made now d0 cs T K bs (w.alloc X) bd bf bt bk vp) := hA
  have x0 : (w.alloc X).heap[w.heap.size]? = some (.cells #[.string c.fr, .string c.to, .int .i64 c.num] 77) := by rw [heap_alloc_new, hX]
  obtain ⟨c0, c1, c2, c3, c4, c5, c6⟩ := hA.cells
  obtain ⟨fr, to, num⟩ := c
  simp only at HAP x0
  clear h hA hbA
  subst hX
  go_enter Try.func27, Try.ntmps27
  go_wp2
  go_region_with (go_at_call 46; refine (HAP.out _ (by exact HA.out.m1)).mono ?_; rintro e w2 ⟨rfl, hm2, hk2⟩)
  all_goals
    have hkp2 : ∀ k, k < (w.alloc (.cells #[.string fr, .string to, .int .i64 num] 77)).heap.size → k ≠ bd → w2.heap[k]? = (w.alloc (.cells #[.string fr, .string to, .int .i64 num] 77)).heap[k]? := fun k hk hne => hk2.block k hk hne
    have hsA : (w.alloc (.cells #[.string fr, .string to, .int .i64 num] 77)).heap.size = w.heap.size + 1 := by simp
    have hbk : bd ≠ w.heap.size := fun e => by
      obtain ⟨_, _, hh, _⟩ := HA.out.m1
      rw [e, x0] at hh; cases hh
    have x2 : w2.heap[w.heap.size]? = some (.cells #[.string fr, .string to, .int .i64 num] 77) := (hkp2 _ (by omega) hbk.symm).trans x0
    have R2 : RN F p cap made ((⟨fr, to, num⟩ : Chg).app now) d0 cs T K bs w2 bd bf bt bk vp := HA.out.turn HA.out.m1 hkp2 hm2 (HA.out.m2.keep (hkp2 _ HA.out.m2.lt HA.out.n1.symm)) (HA.out.m3.keep (hkp2 _ HA.out.m3.lt HA.out.n2.symm)) (HA.out.m4.keep (hkp2 _ HA.out.m4.lt HA.out.n3.symm)) fun _ h => h
    have HKA : Hid (Kp F w w2) := by
      refine ⟨hk2.os, hk2.tape, hk2.output, Nat.le_trans (by simp) hk2.size, fun k hk hF => ?_⟩
      exact (hkp2 k (by omega) (fun e => hF (e ▸ HA.out.f1))).trans (Lib.alloc_old w _ k hk)
    have H2 : Hid (RN F p cap made ((⟨fr, to, num⟩ : Chg).app now) d0 cs T K bs w2 bd bf bt bk vp) := R2
    obtain ⟨e0, e1, e2, e3, e4, e5, e6⟩ := R2.cells
    have y0 : w2.cell? ⟨w.heap.size, 0, none⟩ = some (.string fr) := by rw [Lib.cell_of_heap x2]; rfl
    have y1 : w2.cell? ⟨w.heap.size, 1, none⟩ = some (.string to) := by rw [Lib.cell_of_heap x2]; rfl
    have y2 : w2.cell? ⟨w.heap.size, 2, none⟩ = some (.int .i64 num) := by rw [Lib.cell_of_heap x2]; rfl
    have hlt2 := R2.lt
    have HP : Hid (some p ≠ vp.ownBlock) := fun e => by
      obtain ⟨cur, hc⟩ := own_typed H2.out.row e.symm
      exact typed_ne H2.out.blk hc (by decide) rfl
    clear R2 hkp2 hsA hbk hk2 hm2 HAP HA c0 c1 c2 c3 c4 c5 c6 x0 e0 e1 e2 e3 e4 e5
    go_wp2
    go_region_law (refine step_app rfl (.tmp 14) (.tmp 16) 64 rfl 0 77 i0 (.agg #[.string ⟨#[]⟩, .string ⟨#[]⟩, .int .i64 0]) 3 40 Try.underlying64 hi hz0 hz1 hz2 rfl (by decide) vp cs.length (chgV cs) (by simp [Act.eval]) (by exact H2.out.row.alloc _) ⟨w2.heap.size, 0, none⟩ 1 1 [.string fr, .string to, .int .i64 num] (by simp [Act.eval]) rfl (three_new _ _ _ _ _ rfl) (by intro u hu; simp at hu; rcases hu with rfl | rfl | rfl <;> rfl) (by unfold maxLen; omega) (by omega) (Nat.zero_le _) ?_; intro v' w3 hown' hgrow hwh; obtain ⟨ao2, cap2, rfl⟩ := own_shape hown'; have hb2 : w3.heap[p]? = some (.cells (diskV cap made (.map (some bd)) (.map (some bf)) (.map (some bt)) (.map (some bk)) vp) 66 (0, 0)) := ((hgrow.block p (by simp; omega) HP.out).trans (Lib.alloc_old _ _ p hlt2)).trans H2.out.blk; have d6 : w3.cell? ⟨p, 6, none⟩ = some vp := (by rw [Lib.cell_of_heap hb2]; rfl); have f6 := Lib.frozen_of_heap hb2 6)
    all_goals
      have R3 := RN.noted (o := .cells #[.string fr, .string to, .int .i64 num] 77) ⟨fr, to, num⟩ H2.out (by rw [chgV_snoc]; exact hown') ⟨hgrow.os, hgrow.tape, hgrow.output, hgrow.size, hgrow.block⟩ hwh
      have HR : Hid (Raw (ext F w (w3.setCell ⟨p, 6, none⟩ (.slice ao2 (cs.length + 1) cap2))) p cap made ((⟨fr, to, num⟩ : Chg).app now) d0 (cs ++ [⟨fr, to, num⟩]) T K bs (w3.setCell ⟨p, 6, none⟩ (.slice ao2 (cs.length + 1) cap2)) ∧ Kp F w (w3.setCell ⟨p, 6, none⟩ (.slice ao2 (cs.length + 1) cap2))) := by
        refine ⟨R3.1.raw.keep (fun _ _ _ => rfl) (fun k hk => ?_), HKA.out.trans R3.2⟩
        have := HKA.out.size
        rcases hk with hk | hk
        · exact .inl hk
        · exact .inr ⟨by omega, by omega⟩
      clear R3 hgrow hown' hwh hb2
      go_wp2
      go_end0
      exact ⟨rfl, HR.out⟩
end Go.Proofs.Ytodjgbmfmpbkjab
