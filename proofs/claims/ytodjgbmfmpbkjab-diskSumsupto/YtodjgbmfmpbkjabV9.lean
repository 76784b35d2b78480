-- goBack: the durable directory is the one that is there.
import Derived.Test.YtodjgbmfmpbkjabV8
namespace Go.Proofs.Ytodjgbmfmpbkjab
open Go.RowKit
set_option linter.unusedVariables false
theorem RangeAt.perm {d : TypeDesc} {w : World} {b r : Nat} {l left left' : Prs} (h : RangeAt d w b r l left) (hp : left.Perm left') : RangeAt d w b r l left' := by
  obtain ⟨es, clock, since, seen, c0, h1, h2, h3, h4, h5, h6, h7, h8, h9⟩ := h
  exact ⟨es, clock, since, seen, c0, h1, h2, h3, h4, h5, h6, h7, h8, h9.trans hp⟩
theorem perm_of_mem {α : Type} {l : List α} {x : α} (h : x ∈ l) : ∃ l', l.Perm (x :: l') := by
  obtain ⟨s, t, rfl⟩ := List.append_of_mem h
  exact ⟨s ++ t, List.perm_middle⟩
theorem map_split {α β : Type} {f : α → β} {d : List α} {p : β} {l' : List β} (h : (d.map f).Perm (p :: l')) : ∃ e d', d.Perm (e :: d') ∧ p = f e ∧ l'.Perm (d'.map f) := by
  obtain ⟨e, he, hp⟩ := List.mem_map.1 (h.mem_iff.2 (by simp) : p ∈ d.map f)
  obtain ⟨d', hd⟩ := perm_of_mem he
  refine ⟨e, d', hd, hp.symm, ?_⟩
  have := h.symm.trans (hd.map f)
  rw [List.map_cons, hp] at this
  exact (List.perm_cons _).1 this
theorem eql_nil (w : World) : (binOp .eql 62 (.map none) (.map none)).run Try.prog w = .ok (.bool true) w := by kernel_rfl
theorem eql_some (b : Nat) (w : World) : (binOp .eql 62 (.map (some b)) (.map none)).run Try.prog w = .ok (.bool false) w := by kernel_rfl
set_option maxHeartbeats 4000000 in
theorem clone_nil (w : World) : Calls Try.prog 71 #[.map none] w fun e w' => e = .returned (.map none) ∧ w' = w := by
  have hq := eql_nil w
  go_enter Try.func71, Try.ntmps71
  go_wp2
  go_ret
  exact ⟨rfl, rfl⟩
theorem run_clone {P : Program} (w : World) (t : TypeId) (b : Nat) (es : Array MapEntry) (clock : Nat) (h : w.heap[b]? = some (.map es clock)) : (Extern.MapsClone.clone #[.iface t (.map (some b))]).run P w = .ok (.iface t (.map (some w.heap.size))) (w.alloc (.map es clock)) := by
  change Sem.run P (Bind.bind (getObj b) _) w = _
  rw [Sem.run_bind, MapKept.run_getObj_map h]
  rfl
set_option maxHeartbeats 4000000 in
set_option maxRecDepth 100000 in
theorem clone_c (b : Nat) (l : Prs) (w : World) (h : MapAt .string w b l) : Calls Try.prog 71 #[.map (some b)] w fun e w' => e = .returned (.map (some w.heap.size)) ∧ MapAt .string w' w.heap.size l ∧ Below w.heap.size w w' ∧ w'.heap.size = w.heap.size + 1 := by
  have hq := eql_some b w
  obtain ⟨es, clock, hb, hs, hk, hp⟩ := h
  have hcl := run_clone (P := Try.prog) w 62 b es clock hb
  have HR : Hid (MapAt .string (w.alloc (.map es clock)) w.heap.size l ∧ Below w.heap.size w (w.alloc (.map es clock)) ∧ (w.alloc (.map es clock)).heap.size = w.heap.size + 1) := ⟨⟨es, clock, heap_alloc_new w _, hs, hk, hp⟩, (Below.refl _ w).alloc (Nat.le_refl _) _, by simp⟩
  obtain ⟨W, hW⟩ : ∃ W, W = w.alloc (.map es clock) := ⟨_, rfl⟩
  obtain ⟨q, hq'⟩ : ∃ q, q = w.heap.size := ⟨_, rfl⟩
  rw [← hW] at hcl HR
  rw [← hq'] at hcl HR ⊢
  have hta : (Instr.typeAssert (.iface 62 (.map (some q))) 20 62 false).run Try.prog W = .ok (.map (some q)) W := by kernel_rfl
  clear hs hk hp hb hW hq'
  go_enter Try.func71, Try.ntmps71
  go_wp2
  rw [run_callFunc_extern Try.func88 (by kernel_rfl) (by kernel_rfl) (by kernel_rfl) (e := Extern.MapsClone.clone) (by kernel_rfl), hcl]
  simp only [Result.andThen]
  rw [Oper.upon_value]
  go_wp2
  go_ret
  exact ⟨rfl, HR.out⟩
/-- The loop of goBack: what has been taken back. -/
structure Back (T K : List (Nat × Nat)) (d0 dl : Dr) (B : List (Nat × Nat)) : Prop where
  sub : ∀ e ∈ B, e ∈ T ++ K
  num : (B.map (·.1) ++ dl.map (·.2)).Perm (d0.map (·.2))
theorem Back.step {T K : List (Nat × Nat)} {d0 dl dl' : Dr} {B : List (Nat × Nat)} {e : ByteArray × Nat} {x : Nat} (h : Back T K d0 dl B) (hd : dl.Perm (e :: dl')) (hx : (e.2, x) ∈ T ++ K) : Back T K d0 dl' ((e.2, x) :: B) where
  sub := fun f hf => by
    rcases List.mem_cons.1 hf with rfl | hf
    · exact hx
    · exact h.sub f hf
  num := by
    refine List.Perm.trans ?_ h.num
    simp only [List.map_cons, List.cons_append]
    refine List.Perm.trans ?_ ((hd.map (·.2)).symm.append_left _)
    simp only [List.map_cons]
    exact List.perm_middle.symm
theorem Back.fresh {T K : List (Nat × Nat)} {d0 dl dl' : Dr} {B : List (Nat × Nat)} {e : ByteArray × Nat} (h : Back T K d0 dl B) (hd : dl.Perm (e :: dl')) (hu : (d0.map (·.2)).Nodup) : ∀ f ∈ B, (f.1 : Int) ≠ (e.2 : Int) := fun f hf hne => by
  have hn := (h.num.nodup_iff).2 hu
  have := (List.nodup_append.1 hn).2.2
  exact this f.1 (List.mem_map.2 ⟨f, hf, rfl⟩) e.2 ((hd.map (·.2)).mem_iff.2 (by simp)) (by omega)
theorem mk_run_h (t k e : TypeId) (ht : Try.prog.underlying t = some (.map k e)) (n : Int) (w : World) : (Instr.makeMap t (some (.int .i64 n))).run Try.prog w = .ok (.map (some w.heap.size)) (w.alloc (.map #[] 0)) := by
  simp [Instr.makeMap, run_underlying ht, asInt, Result.andThen]; rfl
/-- Ahead of the loop: the directory copied, a new map, the range begun. -/
theorem back_pre {p cap made q : Nat} {v2 v3 v4 v5 vp : Value} {d0 : Dr} {w w1 : World} (n : Int) (hq : q = w.heap.size) (hpl : p < w.heap.size) (hm : MapAt .string w1 q (dv d0)) (hb : Below q w w1) (hs : w1.heap.size = q + 1) (hp : w1.heap[p]? = some (.cells (diskV cap made v2 v3 v4 v5 vp) 66 (0, 0))) :
    MapAt .string (w1.setCell ⟨p, 2, none⟩ (.map (some q))) q (dv d0) ∧ (w1.setCell ⟨p, 2, none⟩ (.map (some q))).cell? ⟨p, 2, none⟩ = some (.map (some q)) ∧
    ∃ W2 W3, (Instr.makeMap 63 (some (.int .i64 n))).run Try.prog (w1.setCell ⟨p, 2, none⟩ (.map (some q))) = .ok (.map (some (q + 1))) W2 ∧ W2.cell? ⟨p, 2, none⟩ = some (.map (some q)) ∧
      (Instr.range 62 (.map (some q))).run Try.prog W2 = .ok (.pointer (some ⟨q + 2, 0, none⟩)) W3 ∧ RangeAt .string W3 q (q + 2) (dv d0) (dv d0) ∧ MapAt (.int .i64) W3 (q + 1) (bv []) ∧ W3.heap[p]? = some (.cells (diskV cap made (.map (some q)) v3 v4 v5 vp) 66 (0, 0)) ∧ Kp (fun k => k = p) w W3 ∧ W3.heap.size = q + 3 := by
  have hqp : q ≠ p := by omega
  have hp1 : (w1.setCell ⟨p, 2, none⟩ (.map (some q))).heap[p]? = some (.cells (diskV cap made (.map (some q)) v3 v4 v5 vp) 66 (0, 0)) := blk_set hp _
  have hm1 : MapAt .string (w1.setCell ⟨p, 2, none⟩ (.map (some q))) q (dv d0) := hm.keep (Below.heap_setCell _ _ _ _ hqp)
  have hs1 : (w1.setCell ⟨p, 2, none⟩ (.map (some q))).heap.size = q + 1 := by simp [World.setCell, hs]
  have hk1 : Kp (fun k => k = p) w (w1.setCell ⟨p, 2, none⟩ (.map (some q))) := ⟨hb.os, hb.tape, hb.output, by omega, fun k hk hne => (Below.heap_setCell _ _ _ _ hne).trans (hb.block k (by omega))⟩
  obtain ⟨W1, hW1⟩ : ∃ W, W = w1.setCell ⟨p, 2, none⟩ (.map (some q)) := ⟨_, rfl⟩
  rw [← hW1] at hp1 hm1 hs1 hk1 ⊢
  have hr2 := mk_run_h 63 _ _ Try.underlying63 n W1
  have hm2 : MapAt .string (W1.alloc (.map #[] 0)) q (dv d0) := hm1.keep (Lib.alloc_old W1 _ q (by omega))
  have hp2 : (W1.alloc (.map #[] 0)).heap[p]? = some (.cells (diskV cap made (.map (some q)) v3 v4 v5 vp) 66 (0, 0)) := (Lib.alloc_old W1 _ p (by omega)).trans hp1
  have hb2 : MapAt (.int .i64) (W1.alloc (.map #[] 0)) (q + 1) (bv []) := by rw [← hs1]; exact MapAt.made _ W1
  have hs2 : (W1.alloc (.map #[] 0)).heap.size = q + 2 := by simp [hs1]
  have hk2 : Kp (fun k => k = p) w (W1.alloc (.map #[] 0)) := hk1.kept ((Below.refl _ W1).alloc (Nat.le_refl _) _)
  rw [hs1] at hr2
  obtain ⟨W2, hW2⟩ : ∃ W, W = W1.alloc (.map #[] 0) := ⟨_, rfl⟩
  rw [← hW2] at hr2 hm2 hp2 hb2 hs2 hk2
  obtain ⟨W3, hr3, hg3, hb3, hs3⟩ := hm2.range (P := Try.prog) Try.underlying62
  rw [hs2] at hr3 hg3 hb3 hs3
  exact ⟨hm1, by rw [Lib.cell_of_heap hp1]; rfl, W2, W3, hr2, by rw [Lib.cell_of_heap hp2]; rfl, hr3, hg3, hb2.keep (hb3.block _ (by omega)), (hb3.block p (by omega)).trans hp2, hk2.kept (by rw [hs2]; exact hb3), by omega⟩
set_option maxHeartbeats 8000000 in
theorem goBack_c (F : Nat → Prop) (p cap made : Nat) (now d0 : Dr) (T K : List (Nat × Nat)) (bs : List Bd) (w : World) (bd bf bt bk : Nat) (vp : Value) (h : RN F p cap made now d0 [] T K bs w bd bf bt bk vp) (hu : (d0.map (·.2)).Nodup) (hall : ∀ e ∈ d0, e.2 ∈ T.map (·.1) ∨ e.2 ∈ K.map (·.1)) (hFl : ∀ k, F k → k < w.heap.size) :
    Calls Try.prog 49 #[.pointer (some ⟨p, 0, none⟩)] w fun e w' => e = .returned (.tuple #[]) ∧ (∃ B, Back T K d0 [] B ∧ Raw (ext F w w') p cap made d0 d0 [] B [] bs w') ∧ Kp F w w' := by
  obtain ⟨c0, c1, c2, c3, c4, c5, c6⟩ := h.cells
  have HH : Hid (RN F p cap made now d0 [] T K bs w bd bf bt bk vp) := h
  have HU : Hid ((d0.map (·.2)).Nodup) := hu
  have HALL : Hid (∀ e ∈ d0, e.2 ∈ T.map (·.1) ∨ e.2 ∈ K.map (·.1)) := hall
  have HCL : Hid (Calls Try.prog 71 #[.map (some bf)] w fun e w' => e = .returned (.map (some w.heap.size)) ∧ MapAt .string w' w.heap.size (dv d0) ∧ Below w.heap.size w w' ∧ w'.heap.size = w.heap.size + 1) := clone_c bf (dv d0) w h.m2
  have hpl := h.lt
  have HFL : Hid (∀ k, F k → k < w.heap.size) := hFl
  obtain ⟨q, hq⟩ : ∃ q, q = w.heap.size := ⟨_, rfl⟩
  rw [← hq] at HCL
  have HQ : Hid (q = w.heap.size) := hq
  clear h hu hall hFl hq
  go_enter Try.func49, Try.ntmps49
  go_wp2_with (first
    | (go_at_call 71; refine HCL.out.mono ?_; rintro e w1 ⟨rfl, hm1, hb1, hs1⟩; have hp1 : w1.heap[p]? = some (.cells (diskV cap made (.map (some bd)) (.map (some bf)) (.map (some bt)) (.map (some bk)) vp) 66 (0, 0)) := (hb1.block p (by rw [HQ.out]; exact hpl)).trans HH.out.blk; have e2 : w1.cell? ⟨p, 2, none⟩ = some (.map (some bd)) := (by rw [Lib.cell_of_heap hp1]; rfl); have g2 := Lib.frozen_of_heap hp1 2; obtain ⟨hmq, e2', W2, W3, hr2, x2, hr3, hg3, hm3, hp3, hk3, hs3⟩ := back_pre (d0.length : Int) HQ.out hpl hm1 hb1 hs1 hp1; clear hm1 hb1 hs1 hp1; have HMQ : Hid (MapAt .string (w1.setCell ⟨p, 2, none⟩ (.map (some q))) q (dv d0)) := hmq; have H3 : Hid (RangeAt .string W3 q (q + 2) (dv d0) (dv d0) ∧ MapAt (.int .i64) W3 (q + 1) (bv []) ∧ W3.heap[p]? = some (.cells (diskV cap made (.map (some q)) (.map (some bf)) (.map (some bt)) (.map (some bk)) vp) 66 (0, 0)) ∧ Kp (fun k => k = p) w W3 ∧ W3.heap.size = q + 3) := ⟨hg3, hm3, hp3, hk3, hs3⟩; clear hmq hg3 hm3 hp3 hk3 hs3)
    | (at_len; refine wp_len _ rfl _ 62 rfl _ _ rfl (by have := HMQ.out.len (P := Try.prog) Try.underlying62 3; rw [dv_len] at this; exact this) ?_)
    | (at_range; refine wp_range _ rfl _ 62 rfl _ _ rfl W3 hr3 ?_))
  go_frame
  clear hr2 hr3 x2 e2 g2 e2' HMQ HCL c0 c1 c2 c3 c4 c5 c6
  go_loopw [4] (fun _ wr => ∃ dl B, RangeAt .string wr q (q + 2) (dv d0) (dv dl) ∧ MapAt (.int .i64) wr (q + 1) (bv B) ∧ Back T K d0 dl B ∧ wr.heap[p]? = some (.cells (diskV cap made (.map (some q)) (.map (some bf)) (.map (some bt)) (.map (some bk)) vp) 66 (0, 0)) ∧ Kp (fun k => k = p) w wr ∧ q + 3 ≤ wr.heap.size) (fun _ wr => wr.rangeLeft q (q + 2))
  case atStart => exact ⟨d0, [], H3.out.1, H3.out.2.1, ⟨by simp, by simp⟩, H3.out.2.2.1, H3.out.2.2.2.1, Nat.le_of_eq H3.out.2.2.2.2.symm⟩
  case round =>
    obtain ⟨dl, B, hrg, hmb, hbk, hp, hkp, hsz⟩ := hrel
    have HRG : Hid (RangeAt .string wr q (q + 2) (dv d0) (dv dl)) := hrg
    have hqw := HQ.out
    rcases hrg.next (P := Try.prog) 0 with ⟨hl0, hrun⟩ | ⟨pv, left', w2, hperm, _, hrun, hrg2, hgr, hs2, hen⟩
    · have hnx : ∀ ty, (Instr.next (.pointer (some ⟨q + 2, 0, none⟩)) false ty).run Try.prog wr = .ok (.tuple #[.bool false]) wr := fun ty => hrun
      have hdl : dl = [] := by
        cases dl with
        | nil => rfl
        | cons _ _ => simp [dv] at hl0
      subst hdl
      obtain ⟨w5, hw5⟩ : ∃ w5, w5 = wr.setCell ⟨p, 4, none⟩ (.map (some (q + 1))) := ⟨_, rfl⟩
      have hp5 : w5.heap[p]? = some (.cells (diskV cap made (.map (some q)) (.map (some bf)) (.map (some (q + 1))) (.map (some bk)) vp) 66 (0, 0)) := by rw [hw5]; exact blk_set hp _
      have ho5 : ∀ k, k ≠ p → w5.heap[k]? = wr.heap[k]? := fun k hk => by rw [hw5]; exact Below.heap_setCell _ _ _ _ hk
      have hbkp : bk ≠ p := (HH.out.apart HH.out.m4).1.symm
      have hm5 : MapAt (.int .i64) w5 bk (bv K) := HH.out.m4.keep ((ho5 bk hbkp).trans (hkp.block bk HH.out.m4.lt hbkp))
      obtain ⟨w6, hr6, hm6, ht6⟩ := hm5.clear (P := Try.prog) Try.underlying63 0
      have hs56 := ht6.size
      have hs5 : w5.heap.size = wr.heap.size := by rw [hw5]; simp [World.setCell]
      have HR : Hid ((∃ B, Back T K d0 [] B ∧ Raw (ext F w w6) p cap made d0 d0 [] B [] bs w6) ∧ Kp F w w6) := by
        have low : ∀ k, k < w.heap.size → k ≠ p → k ≠ bk → w6.heap[k]? = w.heap[k]? := fun k h1 h2 h3 => (ht6.other h3).trans ((ho5 k h2).trans (hkp.block k h1 h2))
        have hbkl := HH.out.m4.lt
        have hi : ∀ k, q ≤ k → k ≠ p → w6.heap[k]? = wr.heap[k]? := fun k h1 h2 => (ht6.other (by omega)).trans (ho5 k h2)
        have hE : ∀ k, q ≤ k → k < q + 3 → ext F w w6 k := fun k h1 h2 => .inr ⟨by omega, by omega⟩
        have hfl := HH.out.m2.lt
        have hap := HH.out.apart HH.out.m4
        refine ⟨⟨B, hbk, ?_⟩, ?_⟩
        · have R : RN (ext F w w6) p cap made d0 d0 [] B [] bs w6 q bf (q + 1) bk vp := by
            refine ⟨(ht6.other hbkp.symm).trans hp5, .inl HH.out.fp, hE _ (by omega) (by omega), .inl HH.out.f2, hE _ (by omega) (by omega), .inl HH.out.f4, by omega, by omega, by omega, by omega, HH.out.n5, by omega, hrg.map.keep (hi q (Nat.le_refl _) (by omega)), HH.out.m2.keep (low bf hfl (HH.out.apart HH.out.m2).1.symm HH.out.n5), hmb.keep (hi (q + 1) (by omega) (by omega)), hm6, own_keep HH.out.row fun k hk => ?_, fun k hk => .inl (HH.out.rowF k hk), ?_⟩
            · obtain ⟨cur, hh⟩ := own_typed HH.out.row hk
              exact low k (blk_lt hh) (fun e => typed_ne hh HH.out.blk (by decide) e) (hap.2.1 k hk)
            · rw [List.append_nil]
              refine (HH.out.bod.keep (G := ext F w w6) (fun e he k hk => ?_) fun k hk => .inl hk).sub hbk.sub
              obtain ⟨i, x, _, _, hx⟩ := HH.out.bod.at_ e he
              rcases hk with rfl | hk
              · obtain ⟨cur, hh⟩ := hx.blk
                exact low _ (blk_lt hh) (fun e1 => typed_ne hh HH.out.blk (by decide) e1) (hap.2.2 e he _ (.inl rfl))
              · obtain ⟨cur, fz, hh⟩ := hx.buf hk
                exact low _ (blk_lt hh) (fun e1 => typed_ne hh HH.out.blk (by decide) e1) (hap.2.2 e he k (.inr hk))
          exact R.raw
        · refine ⟨ht6.os.1.trans (by rw [hw5]; exact hkp.os), ht6.os.2.1.trans (by rw [hw5]; exact hkp.tape), ht6.os.2.2.trans (by rw [hw5]; exact hkp.output), by omega, fun k hk hF => low k hk (fun e => hF (e ▸ HH.out.fp)) (fun e => hF (e ▸ HH.out.f4))⟩
      have y4 : wr.cell? ⟨p, 4, none⟩ = some (.map (some bt)) := by rw [Lib.cell_of_heap hp]; rfl
      have z4 : wr.frozen? ⟨p, 4, none⟩ = false := Lib.frozen_of_heap hp 4
      have y5 : w5.cell? ⟨p, 5, none⟩ = some (.map (some bk)) := by rw [Lib.cell_of_heap hp5]; rfl
      have t5 := hw5.symm
      clear hrun hl0 hrg hmb hbk hp hkp hsz hqw hw5 hp5 ho5 hm5 hm6 ht6 hs56 hs5
      go_wp2_with (at_builtin; refine wp_clear _ rfl _ 63 rfl _ rfl w6 hr6 ?_)
      go_end0
      exact ⟨rfl, HR.out⟩
    · obtain ⟨e, dl', hd, rfl, hl'⟩ := map_split (f := fun e : ByteArray × Nat => (Value.string e.1, Value.int .i64 e.2)) hperm
      have hrg3 : RangeAt .string w2 q (q + 2) (dv d0) (dv dl') := hrg2.perm hl'
      have hnx : ∀ ty, (Instr.next (.pointer (some ⟨q + 2, 0, none⟩)) false ty).run Try.prog wr = .ok (.tuple #[.bool true, .string e.1, .int .i64 e.2]) w2 := fun ty => hrun
      have hmem : e.2 ∈ d0.map (·.2) := hbk.num.mem_iff.1 (List.mem_append_right _ ((hd.map (·.2)).mem_iff.2 (by simp)))
      obtain ⟨f, hf, hfe⟩ := List.mem_map.1 hmem
      have hin := HALL.out f hf
      rw [hfe] at hin
      obtain ⟨nm, n⟩ := e
      simp only at hnx hin hmem
      have hle : wr.heap.size = w2.heap.size := hs2.symm
      have hp2 : w2.heap[p]? = some (.cells (diskV cap made (.map (some q)) (.map (some bf)) (.map (some bt)) (.map (some bk)) vp) 66 (0, 0)) := (hgr.block p (by omega) (by simp; omega)).trans hp
      have low : ∀ k, k < w.heap.size → k ≠ p → w2.heap[k]? = w.heap[k]? := fun k h1 h2 => (hgr.block k (by omega) (by simp; omega)).trans (hkp.block k h1 h2)
      have hm2 : MapAt (.int .i64) w2 (q + 1) (bv B) := hmb.keep (hgr.block _ (by omega) (by simp))
      have mT : MapAt (.int .i64) w2 bt (bv T) := HH.out.m3.keep (low bt HH.out.m3.lt (HH.out.apart HH.out.m3).1.symm)
      have mK : MapAt (.int .i64) w2 bk (bv K) := HH.out.m4.keep (low bk HH.out.m4.lt (HH.out.apart HH.out.m4).1.symm)
      have hfresh := hbk.fresh hd HU.out
      have y4 : w2.cell? ⟨p, 4, none⟩ = some (.map (some bt)) := by rw [Lib.cell_of_heap hp2]; rfl
      have y5 : w2.cell? ⟨p, 5, none⟩ = some (.map (some bk)) := by rw [Lib.cell_of_heap hp2]; rfl
      have key : ∀ x, (n, x) ∈ T ++ K → ∃ w3, (Instr.mapUpdate 63 (.map (some (q + 1))) (.int .i64 n) (.pointer (some ⟨x, 0, none⟩))).run Try.prog w2 = .ok () w3 ∧ Hid ((∃ dl B, RangeAt .string w3 q (q + 2) (dv d0) (dv dl) ∧ MapAt (.int .i64) w3 (q + 1) (bv B) ∧ Back T K d0 dl B ∧ w3.heap[p]? = some (.cells (diskV cap made (.map (some q)) (.map (some bf)) (.map (some bt)) (.map (some bk)) vp) 66 (0, 0)) ∧ Kp (fun k => k = p) w w3 ∧ q + 3 ≤ w3.heap.size) ∧ w3.rangeLeft q (q + 2) < wr.rangeLeft q (q + 2)) := fun x hx => by
        obtain ⟨w3, hr3, hm3, ht3⟩ := MapAt.store_new (P := Try.prog) (t := 63) (k := 3) (e := 68) hm2 Try.underlying63 Try.underlying3 (key_i n) (bv_no hfresh) (.pointer (some ⟨x, 0, none⟩))
        have hrg4 : RangeAt .string w3 q (q + 2) (dv d0) (dv dl') := hrg3.keep (ht3.other (by omega)) (ht3.other (by omega))
        have hs3 := ht3.size
        refine ⟨w3, hr3, ⟨dl', (n, x) :: B, hrg4, hm3, hbk.step hd hx, (ht3.other (by omega)).trans hp2, ⟨ht3.os.1.trans (hgr.os.trans hkp.os), ht3.os.2.1.trans (hgr.tape.trans hkp.tape), ht3.os.2.2.trans (hgr.output.trans hkp.output), by have := hkp.size; omega, fun k h1 h2 => (ht3.other (by omega)).trans (low k h1 h2)⟩, by omega⟩, ?_⟩
        rw [hrg4.left_eq, HRG.out.left_eq, dv_len, dv_len, hd.length_eq]; simp
      by_cases hT : ∃ x, (n, x) ∈ T
      · obtain ⟨x, hx⟩ := hT
        have hl1 := bv_look true mT hx
        simp only [if_true] at hl1
        obtain ⟨w3, hr3, HR⟩ := key x (List.mem_append_left _ hx)
        clear key hrun hrg hmb hbk hp hkp hsz hqw hperm hrg2 hgr hs2 hd hl' hrg3 hmem hf hfe hin hle hp2 low hm2 mT mK hfresh hx HRG
        go_wp2_with (first
          | (at_lookup; refine wp_look _ rfl _ _ 63 true rfl _ _ _ rfl rfl hl1 ?_)
          | (at_mapUpdate; refine wp_store _ rfl _ _ _ 63 rfl _ _ _ rfl rfl rfl w3 hr3 ?_; go_frame))
        exact HR.out
      · obtain ⟨x, hx⟩ : ∃ x, (n, x) ∈ K := by
          rcases hin with h1 | h1
          · obtain ⟨g, hg, he⟩ := List.mem_map.1 h1
            exact absurd ⟨g.2, by rw [← he]; exact hg⟩ hT
          · obtain ⟨g, hg, he⟩ := List.mem_map.1 h1
            exact ⟨g.2, by rw [← he]; exact hg⟩
        have hl1 := bv_look_no true mT (n := n) (fun g hg hne => hT ⟨g.2, by rw [← (show g.1 = n by omega)]; exact hg⟩)
        have hl2 := bv_look false mK hx
        simp only [if_true, Bool.false_eq_true, if_false] at hl1 hl2
        obtain ⟨w3, hr3, HR⟩ := key x (List.mem_append_right _ hx)
        clear key hrun hrg hmb hbk hp hkp hsz hqw hperm hrg2 hgr hs2 hd hl' hrg3 hmem hf hfe hin hle hp2 low hm2 mT mK hfresh hx HRG hT
        go_wp2_with (first
          | (at_lookup; refine wp_look _ rfl _ _ 63 _ rfl _ _ _ rfl rfl (by first | with_reducible exact hl1 | with_reducible exact hl2) ?_)
          | (at_mapUpdate; refine wp_store _ rfl _ _ _ 63 rfl _ _ _ rfl rfl rfl w3 hr3 ?_; go_frame))
        exact HR.out
end Go.Proofs.Ytodjgbmfmpbkjab
