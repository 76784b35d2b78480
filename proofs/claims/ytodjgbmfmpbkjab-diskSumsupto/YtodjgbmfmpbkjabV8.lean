-- settle: the first changes made durable, the others forgotten.
import Derived.Test.YtodjgbmfmpbkjabV7
import Derived.LoopN
namespace Go.Proofs.Ytodjgbmfmpbkjab
open Go.RowKit
set_option linter.unusedVariables false
/-- The list of changes is emptied. -/
theorem Raw.emptied {F : Nat → Prop} {p cap made : Nat} {now d0 : Dr} {cs : List Chg} {T K : List (Nat × Nat)} {bs : List Bd} {w : World} (h : Raw F p cap made now d0 cs T K bs w) :
    Raw F p cap made now d0 [] T K bs (w.setCell ⟨p, 6, none⟩ (.slice none 0 0)) ∧ Kp F w (w.setCell ⟨p, 6, none⟩ (.slice none 0 0)) := by
  obtain ⟨vd, vs, vt, vk, vp, hp, hF, hm, ho, hoF, hb, hn⟩ := h
  have other : ∀ k, k ≠ p → (w.setCell ⟨p, 6, none⟩ (.slice none 0 0)).heap[k]? = w.heap[k]? := fun k hk => Below.heap_setCell _ _ _ _ hk
  refine ⟨⟨vd, vs, vt, vk, .slice none 0 0, blk_set hp _, hF, hm.keep (fun v hv b hb' => other b (hm.ne_cells hv hb' hp)) fun _ h => h, World.ownsRow_nil _ _ _ _, fun k hk => by simp [Value.ownBlock] at hk, hb.keep (fun e he k hk => other k ?_) fun _ h => h, fun _ => rfl⟩, rfl, rfl, rfl, by simp [World.setCell], fun k _ hk => other k (fun e => hk (e ▸ hF))⟩
  obtain ⟨i, x, _, _, hx⟩ := hb.at_ e he
  rcases hk with rfl | hk
  · obtain ⟨cur, hh⟩ := hx.blk
    exact fun e1 => typed_ne hh hp (by decide) e1
  · obtain ⟨cur, fz, hh⟩ := hx.buf hk
    exact fun e1 => typed_ne hh hp (by decide) e1
theorem Raw.p6 {F : Nat → Prop} {p cap made : Nat} {now d0 : Dr} {cs : List Chg} {T K : List (Nat × Nat)} {bs : List Bd} {w : World} (h : Raw F p cap made now d0 cs T K bs w) : ∃ ao cp, w.cell? ⟨p, 6, none⟩ = some (.slice ao cs.length cp) ∧ cs.length ≤ cp ∧ cp ≤ maxLen ∧ w.frozen? ⟨p, 6, none⟩ = false := by
  obtain ⟨vd, vs, vt, vk, vp, hp, hF, hm, ho, hoF, hb, hn⟩ := h
  rcases ho.2 with ⟨rfl, h0⟩ | ⟨g, cap', cur, rfl, hg, hh, h1, h2, r⟩
  · exact ⟨none, 0, by rw [Lib.cell_of_heap hp, h0]; rfl, by omega, by unfold maxLen; omega, Lib.frozen_of_heap hp 6⟩
  · exact ⟨_, _, by rw [Lib.cell_of_heap hp]; rfl, h1, h2, Lib.frozen_of_heap hp 6⟩
set_option maxHeartbeats 4000000 in
theorem settle_zero (F : Nat → Prop) (p cap made : Nat) (now d0 : Dr) (cs : List Chg) (T K : List (Nat × Nat)) (bs : List Bd) (w : World) (h : Raw F p cap made now d0 cs T K bs w) :
    Calls Try.prog 48 #[.pointer (some ⟨p, 0, none⟩), .int .i64 0] w fun e w' => e = .returned (.tuple #[]) ∧ Raw (ext F w w') p cap made now d0 [] T K bs w' ∧ Kp F w w' := by
  obtain ⟨ao, cp, c6, hcl, hcm, f6⟩ := h.p6
  have HR : Hid (Raw (ext F w (w.setCell ⟨p, 6, none⟩ (.slice none 0 0))) p cap made now d0 [] T K bs (w.setCell ⟨p, 6, none⟩ (.slice none 0 0)) ∧ Kp F w (w.setCell ⟨p, 6, none⟩ (.slice none 0 0))) := ⟨h.emptied.1.keep (fun _ _ _ => rfl) fun k hk => .inl hk, h.emptied.2⟩
  obtain ⟨n, hn⟩ : ∃ n, n = cs.length := ⟨_, rfl⟩
  rw [← hn] at c6 hcl
  clear h hn
  unfold maxLen at hcm
  have i1 : (0 : Int) ≤ (cp : Int) := by omega
  go_enter Try.func48, Try.ntmps48
  go_wp2
  refine wp_loop_rounds 1 ?_
  rw [rounds_succ]
  go_wp2
  go_end0
  exact ⟨rfl, HR.out⟩
theorem chg_at (cs : List Chg) (k : Nat) (c : Chg) (h : cs[k]? = some c) : (chgV cs)[k * 3]? = some (.string c.fr) ∧ (chgV cs)[k * 3 + 1]? = some (.string c.to) ∧ (chgV cs)[k * 3 + 2]? = some (.int .i64 c.num) := by
  induction cs generalizing k with
  | nil => simp at h
  | cons x r ih =>
    cases k with
    | zero => simp at h; subst h; simp [chgV, Chg.vs]
    | succ k =>
      have e : chgV (x :: r) = .string x.fr :: .string x.to :: .int .i64 x.num :: chgV r := by simp [chgV, Chg.vs]
      rw [e, show (k + 1) * 3 = k * 3 + 1 + 1 + 1 by omega]
      simp only [List.getElem?_cons_succ]
      exact ih k (by simpa using h)
set_option maxHeartbeats 8000000 in
theorem settle_c (m : Nat) (F : Nat → Prop) (p cap made : Nat) (now d0 : Dr) (cs : List Chg) (T K : List (Nat × Nat)) (bs : List Bd) (w : World) (h : Raw F p cap made now d0 cs T K bs w) (hm : m ≤ cs.length) (hl : cs.length ≤ 2097152) :
    Calls Try.prog 48 #[.pointer (some ⟨p, 0, none⟩), .int .i64 m] w fun e w' => e = .returned (.tuple #[]) ∧ Raw (ext F w w') p cap made now (endOf d0 (cs.take m)) [] T K bs w' ∧ Kp F w w' := by
  rcases Nat.eq_zero_or_pos m with rfl | hm0
  · exact settle_zero F p cap made now d0 cs T K bs w h
  obtain ⟨vd, vs, vt, vk, vp, hp, hF, hmp, ho, hoF, hb, hn⟩ := h
  rcases hmp with ⟨rfl, _⟩ | ⟨bd, bf, bt, bk, rfl, rfl, rfl, rfl, f1, f2, f3, f4, n1, n2, n3, n4, n5, n6, m1, m2, m3, m4⟩
  · rw [hn rfl] at hm; simp at hm; omega
  have h : RN F p cap made now d0 cs T K bs w bd bf bt bk vp := ⟨hp, hF, f1, f2, f3, f4, n1, n2, n3, n4, n5, n6, m1, m2, m3, m4, ho, hoF, hb⟩
  clear hp hF f1 f2 f3 f4 n1 n2 n3 n4 n5 n6 m1 m2 m3 m4 ho hoF hb hn
  obtain ⟨g, cp, cur, rfl, _, hg, hnc, hcm, hcs, htk⟩ : ∃ g cp cur, vp = .slice (some ⟨g, 0, none⟩) cs.length cp ∧ 0 ≤ g ∧ w.heap[g]? = some (.cells cur 77 (0, 0)) ∧ cs.length ≤ cp ∧ cp ≤ maxLen ∧ cur.size = cp * 3 ∧ cur.toList.take (cs.length * 3) = chgV cs := by
    rcases h.row.2 with ⟨_, h0⟩ | ⟨g, cp, cur, hv, r⟩
    · omega
    · exact ⟨g, cp, cur, hv, r⟩
  have HH : Hid (RN F p cap made now d0 cs T K bs w bd bf bt bk (.slice (some ⟨g, 0, none⟩) cs.length cp)) := h
  have HG : Hid (w.heap[g]? = some (.cells cur 77 (0, 0))) := hg
  have HGB : Hid (g ≠ bf) := fun e => h.m2.ne_cells hg e.symm
  have HPB : Hid (p ≠ bf) := (h.apart h.m2).1
  have hcell : ∀ k c, cs[k]? = some c → w.cell? ⟨g, k * 3, none⟩ = some (.string c.fr) ∧ w.cell? ⟨g, k * 3 + 1, none⟩ = some (.string c.to) ∧ w.cell? ⟨g, k * 3 + 2, none⟩ = some (.int .i64 c.num) := fun k c hk => by
    obtain ⟨a1, a2, a3⟩ := chg_at cs k c hk
    have b1 := h.row.cells (g := g) rfl _ _ a1
    have b2 := h.row.cells (g := g) rfl _ _ a2
    have b3 := h.row.cells (g := g) rfl _ _ a3
    rw [add_lit0] at b1 b2 b3
    exact ⟨b1, b2, b3⟩
  have HC : Hid (∀ k c, cs[k]? = some c → w.cell? ⟨g, k * 3, none⟩ = some (.string c.fr) ∧ w.cell? ⟨g, k * 3 + 1, none⟩ = some (.string c.to) ∧ w.cell? ⟨g, k * 3 + 2, none⟩ = some (.int .i64 c.num)) := hcell
  have c6 := h.cells.2.2.2.2.2.2
  have hpl := h.lt
  have hgl := blk_lt hg
  obtain ⟨N, hN⟩ : ∃ n, n = cs.length := ⟨_, rfl⟩
  have HN : Hid (N = cs.length) := hN
  rw [← hN] at c6 hnc hm hl
  unfold maxLen at hcm
  have i1 : (0 : Int) ≤ (m : Int) := by omega
  have i2 : (m : Int) ≤ (cp : Int) := by omega
  have i3 : (m : Int) ≤ (N : Int) := by omega
  clear h hg hcell hcs htk hN
  go_enter Try.func48, Try.ntmps48
  go_wp2
  go_loopw [13] (fun i wr => ∃ k : Nat, i = .int .i64 k ∧ k ≤ m ∧ MapAt .string wr bf (dv (endOf d0 (cs.take k))) ∧ Kp (fun k => k = bf) w wr) (fun i _ => m - (intOf i).toNat)
  case atStart => exact ⟨0, rfl, Nat.zero_le _, HH.out.m2, Kp.refl _ _⟩
  case round =>
    obtain ⟨k, rfl, hkm, hmap, hkp⟩ := hrel
    have hs := hkp.size
    by_cases hk : k < m
    · obtain ⟨c, hc⟩ : ∃ c, cs[k]? = some c := ⟨_, List.getElem?_eq_getElem (by rw [← HN.out]; omega)⟩
      obtain ⟨d1, d2, d3⟩ := HC.out k c hc
      have hgk : wr.heap[g]? = w.heap[g]? := hkp.block g hgl HGB.out
      have a1 : wr.cell? ⟨g, k * 3, none⟩ = some (.string c.fr) := (World.cell?_of_block (a := ⟨g, k * 3, none⟩) hgk).trans d1
      have a2 : wr.cell? ⟨g, k * 3 + 1, none⟩ = some (.string c.to) := (World.cell?_of_block (a := ⟨g, k * 3 + 1, none⟩) hgk).trans d2
      have a3 : wr.cell? ⟨g, k * 3 + 2, none⟩ = some (.int .i64 c.num) := (World.cell?_of_block (a := ⟨g, k * 3 + 2, none⟩) hgk).trans d3
      have HE : Hid (endOf d0 (cs.take (k + 1)) = c.app (endOf d0 (cs.take k))) := endOf_take d0 cs k c hc
      have HM : Hid (MapAt .string wr bf (dv (endOf d0 (cs.take k)))) := hmap
      have HKP : Hid (Kp (fun k => k = bf) w wr) := hkp
      have HAP : Hid (∀ W, MapAt .string W bf (dv (endOf d0 (cs.take k))) → Calls Try.prog 46 #[.agg #[.string c.fr, .string c.to, .int .i64 c.num], .map (some bf)] W fun e w' => e = .returned (.tuple #[]) ∧ MapAt .string w' bf (dv (c.app (endOf d0 (cs.take k)))) ∧ Kp (fun k => k = bf) W w') := fun W hW => apply_c c bf _ W hW
      have b1 : decide ((k : Int) < (m : Int)) = true := by simp; omega
      have i4 : (k : Int) < (m : Int) := by omega
      have i5 : (0 : Int) ≤ (k : Int) := by omega
      clear d1 d2 d3 hgk hc hmap hkp
      obtain ⟨fr, to, num⟩ := c
      simp only at a1 a2 a3 HAP
      go_wp2_with fail
      have hA : MapAt .string (wr.alloc (.cells #[.string fr, .string to, .int .i64 num] 77)) bf (dv (endOf d0 (cs.take k))) := HM.out.keep (Lib.alloc_old wr _ bf HM.out.lt)
      have HA : Hid (MapAt .string (wr.alloc (.cells #[.string fr, .string to, .int .i64 num] 77)) bf (dv (endOf d0 (cs.take k)))) := hA
      have y3 : (wr.alloc (.cells #[.string fr, .string to, .int .i64 num] 77)).cell? ⟨p, 3, none⟩ = some (.map (some bf)) := by
        rw [Lib.cell_of_heap ((Lib.alloc_old wr _ p (by omega)).trans ((HKP.out.block p hpl HPB.out).trans HH.out.blk))]; rfl
      clear hA
      go_region_with (go_at_call 46; refine (HAP.out _ (by exact HA.out)).mono ?_; rintro e w2 ⟨rfl, hm2, hk2⟩)
      all_goals
        have hk3 : Kp (fun k => k = bf) w w2 := HKP.out.trans ((Kp.of_below (F := fun k => k = bf) ((Below.refl _ wr).alloc (Nat.le_refl _) (.cells #[.string fr, .string to, .int .i64 num] 77))).trans ⟨hk2.os, hk2.tape, hk2.output, hk2.size, hk2.block⟩)
        clear hk2
        go_wp2
        exact ⟨⟨k + 1, rfl, by omega, by rw [HE.out]; exact hm2, hk3⟩, by simp [intOf]; omega⟩
    · obtain rfl : k = m := by omega
      have b1 : decide ((k : Int) < (k : Int)) = false := by simp
      have R2 : RN F p cap made now (endOf d0 (cs.take k)) cs T K bs wr bd bf bt bk (.slice (some ⟨g, 0, none⟩) cs.length cp) :=
        HH.out.turn HH.out.m2 (fun q hq hne => hkp.block q hq hne) (HH.out.m1.keep (hkp.block _ HH.out.m1.lt HH.out.n1)) hmap (HH.out.m3.keep (hkp.block _ HH.out.m3.lt HH.out.n4.symm)) (HH.out.m4.keep (hkp.block _ HH.out.m4.lt HH.out.n5.symm)) fun _ h => h
      have hkF : Kp F w wr := hkp.wide fun q hq => by subst hq; exact HH.out.f2
      obtain ⟨ao, cp', e6, _, _, g6⟩ := R2.raw.p6
      have HR : Hid (Raw (ext F w (wr.setCell ⟨p, 6, none⟩ (.slice none 0 0))) p cap made now (endOf d0 (cs.take k)) [] T K bs (wr.setCell ⟨p, 6, none⟩ (.slice none 0 0)) ∧ Kp F w (wr.setCell ⟨p, 6, none⟩ (.slice none 0 0))) := ⟨R2.raw.emptied.1.keep (fun _ _ _ => rfl) fun q hq => .inl hq, hkF.trans R2.raw.emptied.2⟩
      clear R2 hmap hkp hkF
      go_wp2
      go_end0
      exact ⟨rfl, HR.out⟩
end Go.Proofs.Ytodjgbmfmpbkjab
