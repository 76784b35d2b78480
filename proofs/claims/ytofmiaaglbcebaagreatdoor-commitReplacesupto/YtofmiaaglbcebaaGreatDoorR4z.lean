import Derived.Test.YtofmiaaglbcebaaGreatDoorR3z
import Derived.Test.YtofmiaaglbcebaaGreatDoorU12z
import Derived.Deep.RegionWith
import Derived.Deep.DrawnRows

-- The calls of the document's volume: Stat, Create.
namespace Go.Proofs.YtofmiaaglbcebaaGreatDoor
open Go.RowKit
set_option linter.unusedVariables false
attribute [local go_sem ↓] Go.wp_at_zero Go.wp_at_succ
theorem RVo.row {G Fd : Nat → Prop} {r d : Nat} {pv : Value} {v : Vs} {w0 w : World} (O : RVo G r v w d pv Fd) (hk : Kp G w0 w) {x : Nat} (hx : ¬ G x) (hx0 : w0.heap.size ≤ x) (cs : Array Value) : RVo G r v (w.setRow x cs) d pv Fd ∧ Kp G w0 (w.setRow x cs) :=
  ⟨O.same (by simp) fun k h1 _ => setRow_other _ _ _ (fun e => hx (e ▸ h1)), hk.os, hk.tape, hk.output, by simpa using hk.size, fun k h1 h2 => (setRow_other _ _ _ (by omega)).trans (hk.block k h1 h2)⟩
set_option maxHeartbeats 4000000 in
theorem rStat_c (G : Nat → Prop) (r : Nat) (v : Vs) (name : ByteArray) (w : World) (h : RV G r v w) (hw : Wf v.st) (hn : v.cnt ≤ 4194304) :
    Calls Tryz.prog 28 #[.pointer (some ⟨r, 0, none⟩), .string name] w fun e w' => e = .returned (.tuple #[.agg (stV v name), .int .i64 (v.stat name).1.2]) ∧ RDid G r (v.stat name).2 w w' := by
  obtain ⟨X, hX⟩ : ∃ X, X = Obj.cells #[.int .i64 0, .int .i64 0, .int .i64 0, .int .i64 0, .string ⟨#[]⟩, .int .i64 0] 72 := ⟨_, rfl⟩
  have hbA : Below w.heap.size w (w.alloc X) := (Below.refl _ w).alloc (Nat.le_refl _) X
  have hsA : (w.alloc X).heap.size = w.heap.size + 1 := by simp
  have HRef : Hid (Calls Tryz.prog 56 #[.pointer (some ⟨r, 0, none⟩)] (w.alloc X) fun e w' => e = .returned (.tuple #[.int .i64 v.met.1, .int .i64 v.sh]) ∧ RV G r v.met.2 w' ∧ Kp G w w' ∧ w'.heap[w.heap.size]? = some (.cells #[.int .i64 0, .int .i64 0, .int .i64 0, .int .i64 0, .string ⟨#[]⟩, .int .i64 0] 72 (0, 0)) ∧ w.heap.size < w'.heap.size) := (meets_c G r v _ (h.below hbA) hn).mono (by
    rintro e w' ⟨rfl, h1, h2⟩
    refine ⟨rfl, h1, (Kp.of_below hbA).trans h2, ?_, by have := h2.size; omega⟩
    rw [h2.block _ (by omega) (fun h' => by have := h.low _ h'; omega), heap_alloc_new, hX])
  have hs := met_st v
  have HN : Hid (¬ G w.heap.size) := fun h' => by have := h.low _ h'; omega
  by_cases hm : v.met.1 = 0
  · have HE : Hid (v.stat name = (((v.st.find name).1, (v.st.find name).2.2), v.met.2)) := by show _ = _; unfold Vs.stat; rw [if_neg (by simp [hm])]
    have HV : Hid (∀ d pv Fd w1, RVo G r v.met.2 w1 d pv Fd → Kp G w w1 → w1.heap[w.heap.size]? = some (.cells #[.int .i64 0, .int .i64 0, .int .i64 0, .int .i64 0, .string ⟨#[]⟩, .int .i64 0] 72 (0, 0)) → w.heap.size < w1.heap.size → Calls Tryz.prog 57 #[.pointer (some ⟨d, 0, none⟩), .string name] w1 fun e w' => e = .returned (.tuple #[.agg #[.int .i64 (v.st.find name).1.2.date, .int .i64 (v.st.find name).1.2.uid, .int .i64 (v.st.find name).1.2.gid, .int .i64 (v.st.find name).1.2.mode, .string (v.st.find name).1.1, .int .i64 (v.st.find name).1.2.data.size], .int .i64 (v.st.find name).2.1, .int .i64 (v.st.find name).2.2]) ∧ RVo G r v.met.2 w' d pv Fd ∧ Kp G w w' ∧ w'.heap[w.heap.size]? = some (.cells #[.int .i64 0, .int .i64 0, .int .i64 0, .int .i64 0, .string ⟨#[]⟩, .int .i64 0] 72 (0, 0)) ∧ w.heap.size < w'.heap.size) := fun d pv Fd w1 O hk hx hl => by
      obtain ⟨bv, dv, dvs, hd⟩ := O.disk
      refine (find_c Fd d v.met.2.st bv dv dvs name w1 hd (by rw [hs]; exact hw)).mono ?_
      rintro e w' ⟨rfl, hb⟩
      rw [hs]
      have := hb.size
      exact ⟨rfl, O.below hb, hk.kept hb, (hb.block _ hl).trans hx, by omega⟩
    rw [hm] at HRef
    have HSV : Hid (stV v name = #[.int .i64 (v.st.find name).1.2.date, .int .i64 (v.st.find name).1.2.uid, .int .i64 (v.st.find name).1.2.gid, .int .i64 (v.st.find name).1.2.mode, .string (v.st.find name).1.1, .int .i64 (v.st.find name).1.2.data.size]) := by show _ = _; unfold stV; rw [HE.out]
    have HE2 : Hid ((v.stat name).1.2 = (v.st.find name).2.2 ∧ (v.stat name).2 = v.met.2) := by show _ ∧ _; rw [HE.out]; exact ⟨rfl, rfl⟩
    clear h hw hn hm hs hbA hsA HE
    subst hX
    obtain ⟨F1, hF1⟩ : ∃ x, x = (v.st.find name).1.2.date := ⟨_, rfl⟩
    obtain ⟨F2, hF2⟩ : ∃ x, x = (v.st.find name).1.2.uid := ⟨_, rfl⟩
    obtain ⟨F3, hF3⟩ : ∃ x, x = (v.st.find name).1.2.gid := ⟨_, rfl⟩
    obtain ⟨F4, hF4⟩ : ∃ x, x = (v.st.find name).1.2.mode := ⟨_, rfl⟩
    obtain ⟨F5, hF5⟩ : ∃ x, x = (v.st.find name).1.1 := ⟨_, rfl⟩
    obtain ⟨F6, hF6⟩ : ∃ x, x = (v.st.find name).1.2.data.size := ⟨_, rfl⟩
    obtain ⟨F7, hF7⟩ : ∃ x, x = (v.st.find name).2.1 := ⟨_, rfl⟩
    obtain ⟨F8, hF8⟩ : ∃ x, x = (v.st.find name).2.2 := ⟨_, rfl⟩
    rw [← hF1, ← hF2, ← hF3, ← hF4, ← hF5, ← hF6, ← hF7, ← hF8] at HV
    rw [← hF1, ← hF2, ← hF3, ← hF4, ← hF5, ← hF6] at HSV
    rw [← hF8] at HE2
    clear hF1 hF2 hF3 hF4 hF5 hF6 hF7 hF8
    go_enter Tryz.func28, Tryz.ntmps28
    go_wp2_with fail
    go_at_call 56
    refine HRef.out.mono ?_
    rintro e w1 ⟨rfl, ⟨d, pv, Fd, O1⟩, hk1, hx1, hl1⟩
    have c0 := O1.cell0
    have hql := O1.lt
    go_wp2_with fail
    go_at_call 57
    refine (HV.out d pv Fd _ O1 hk1 hx1 hl1).mono ?_
    rintro e w2 ⟨rfl, O2, hk2, hx2, hl2⟩
    obtain ⟨x, hxe⟩ : ∃ x, x = w.heap.size := ⟨_, rfl⟩
    have HXE : Hid (x = w.heap.size) := hxe
    have HG : Hid (∀ X, (w2.alloc X).heap[x]? = some (.cells #[.int .i64 0, .int .i64 0, .int .i64 0, .int .i64 0, .string ⟨#[]⟩, .int .i64 0] 72 (0, 0))) := fun X => by rw [hxe]; exact (((Below.refl _ w2).alloc (Nat.le_refl _) X).block _ hl2).trans hx2
    have hlx : x < w2.heap.size := by rw [hxe]; exact hl2
    rw [← hxe]
    have HO2 : Hid (RVo G r v.met.2 w2 d pv Fd ∧ Kp G w w2) := ⟨O2, hk2⟩
    clear hxe O1 hk1 hx1 hl1 O2 hk2 hx2 hl2 c0 hql
    go_wp2_with (refine wpList_store_row rfl 72 _ _ rfl x #[.int .i64 F1, .int .i64 F2, .int .i64 F3, .int .i64 F4, .string F5, .int .i64 F6] rfl rfl _ _ (HG.out _) sizeInf4 rfl (all6 _ _ _ _ _ _) ?_)
    refine bodyPost_ret (results_cell_tmp1 rfl _ _ x _ _ _ _ rfl (setRow_heap _ _ _ #[.int .i64 F1, .int .i64 F2, .int .i64 F3, .int .i64 F4, .string F5, .int .i64 F6] _ _ (HG.out _)) Tryz.underlying72 rfl sizeInf4) rfl ?_
    rw [HSV.out, HE2.out.1, HE2.out.2]
    have hb : Below w2.heap.size w2 (w2.alloc (.cells #[.int .i64 F1, .int .i64 F2, .int .i64 F3, .int .i64 F4, .string F5, .int .i64 F6] 72)) := (Below.refl _ w2).alloc (Nat.le_refl _) _
    obtain ⟨O3, k3⟩ := (HO2.out.1.below hb).row (HO2.out.2.kept hb) (x := x) (by rw [HXE.out]; exact HN.out) (by rw [HXE.out]; exact Nat.le_refl _) #[.int .i64 F1, .int .i64 F2, .int .i64 F3, .int .i64 F4, .string F5, .int .i64 F6]
    exact ⟨rfl, RDid.of ⟨d, pv, Fd, O3⟩ k3⟩
  · have HE : Hid (v.stat name = (((⟨#[]⟩, noBd), v.met.1), v.met.2)) := by show _ = _; unfold Vs.stat; rw [if_pos hm]
    have HSV : Hid (stV v name = #[.int .i64 0, .int .i64 0, .int .i64 0, .int .i64 0, .string ⟨#[]⟩, .int .i64 0]) := by show _ = _; unfold stV; rw [HE.out]; rfl
    have b1 : ((v.met.1 : Int) == 0) = false := by simp; omega
    obtain ⟨E, hE⟩ : ∃ E, E = v.met.1 := ⟨_, rfl⟩
    rw [← hE] at HRef HE b1
    have b2 : ((E : Int) != 0) = true := by simp [bne, b1]
    clear hm hE h hn hw hs hbA hsA
    subst hX
    go_enter Tryz.func28, Tryz.ntmps28
    go_wp2_with fail
    go_at_call 56
    refine HRef.out.mono ?_
    rintro e w1 ⟨rfl, ⟨d, pv, Fd, O1⟩, hk1, hx1, hl1⟩
    go_wp2_with (refine wpList_store_row rfl 72 _ _ rfl w.heap.size #[.int .i64 0, .int .i64 0, .int .i64 0, .int .i64 0, .string ⟨#[]⟩, .int .i64 0] rfl rfl _ _ hx1 sizeInf4 rfl (all6 0 0 0 0 0 ⟨#[]⟩) ?_)
    refine bodyPost_ret (results_cell_tmp1 rfl _ _ w.heap.size _ _ _ _ rfl (setRow_heap _ _ _ #[.int .i64 0, .int .i64 0, .int .i64 0, .int .i64 0, .string ⟨#[]⟩, .int .i64 0] _ _ hx1) Tryz.underlying72 rfl sizeInf4) rfl ?_
    rw [HSV.out, HE.out]
    obtain ⟨O3, k3⟩ := O1.row hk1 HN.out (Nat.le_refl _) #[.int .i64 0, .int .i64 0, .int .i64 0, .int .i64 0, .string ⟨#[]⟩, .int .i64 0]
    exact ⟨rfl, RDid.of ⟨d, pv, Fd, O3⟩ k3⟩
/-- A handle of the document's. -/
def rfileV (r : Nat) (h : Hd) : Array Value := #[.pointer (some ⟨r, 0, none⟩), .int .i64 h.body, .string h.name, .int .i64 h.round, .bool h.shut]
def RFileAt (w : World) (b r : Nat) (h : Hd) : Prop := w.heap[b]? = some (.cells (rfileV r h) 152 (0, 0))
theorem RFileAt.cells {w : World} {b r : Nat} {h : Hd} (a : RFileAt w b r h) : w.cell? ⟨b, 0, none⟩ = some (.pointer (some ⟨r, 0, none⟩)) ∧ w.cell? ⟨b, 1, none⟩ = some (.int .i64 h.body) ∧ w.cell? ⟨b, 2, none⟩ = some (.string h.name) ∧ w.cell? ⟨b, 3, none⟩ = some (.int .i64 h.round) ∧ w.cell? ⟨b, 4, none⟩ = some (.bool h.shut) ∧ ∀ j, w.frozen? ⟨b, j, none⟩ = false := by
  refine ⟨?_, ?_, ?_, ?_, ?_, fun j => Lib.frozen_of_heap a j⟩ <;> (rw [Lib.cell_of_heap a]; rfl)
theorem RFileAt.below {w w' : World} {b r : Nat} {x : Hd} (h : RFileAt w b r x) (hb : Below w.heap.size w w') : RFileAt w' b r x := (hb.block b (Array.getElem?_eq_some_iff.1 h).1).trans h
theorem RFileAt.kept {G : Nat → Prop} {w w' : World} {b r : Nat} {x : Hd} (h : RFileAt w b r x) (hk : Kp G w w') (hG : ¬ G b) : RFileAt w' b r x := (hk.block b (Array.getElem?_eq_some_iff.1 h).1 hG).trans h
/-- What Create answers. -/
def RMade (G : Nat → Prop) (r : Nat) (v v' : Vs) (name : ByteArray) (body e : Nat) (w w' : World) (hv : Value) : Prop :=
  Kp G w w' ∧ ((e ≠ 0 ∧ hv = .pointer none ∧ RV (ext G w w') r v' w') ∨
    (e = 0 ∧ ∃ b G', hv = .pointer (some ⟨b, 0, none⟩) ∧ RFileAt w' b r ⟨name, body, v.round, false⟩ ∧ RV G' r v' w' ∧ (∀ k, G' k → ext G w w' k) ∧ (∀ k, G k → G' k) ∧ ¬ G' b ∧ w.heap.size ≤ b))
theorem create_body (st : St) (name : ByteArray) (m0 m1 m2 m3 : Int) (h : (st.create name m0 m1 m2 m3).1.2 ≠ 0) : (st.create name m0 m1 m2 m3).1.1 = 0 := by
  unfold St.create at h ⊢
  split at h
  · rename_i h1; rw [if_pos h1]
  · rename_i h1
    rw [if_neg h1]
    split at h
    · rename_i h2; rw [if_pos h2]
    · exact absurd rfl h
set_option maxRecDepth 8000 in
set_option maxHeartbeats 8000000 in
theorem rCreate_c (G : Nat → Prop) (r : Nat) (v : Vs) (name : ByteArray) (m0 m1 m2 m3 : Int) (w : World) (h : RV G r v w) (hw : Wf v.st) (hn : v.cnt ≤ 4194304) :
    Calls Tryz.prog 43 #[.pointer (some ⟨r, 0, none⟩), .string name, .agg #[.int .i64 m0, .int .i64 m1, .int .i64 m2, .int .i64 m3]] w fun e w' => ∃ hv, e = .returned (.tuple #[hv, .int .i64 (v.create name m0 m1 m2 m3).1.2]) ∧ RMade G r v (v.create name m0 m1 m2 m3).2 name (v.create name m0 m1 m2 m3).1.1 (v.create name m0 m1 m2 m3).1.2 w w' hv := by
  obtain ⟨X, hX⟩ : ∃ X, X = Obj.cells #[.int .i64 m0, .int .i64 m1, .int .i64 m2, .int .i64 m3] 30 := ⟨_, rfl⟩
  have hbA : Below w.heap.size w (w.alloc X) := (Below.refl _ w).alloc (Nat.le_refl _) X
  have hsA : (w.alloc X).heap.size = w.heap.size + 1 := by simp
  have HRef : Hid (Calls Tryz.prog 56 #[.pointer (some ⟨r, 0, none⟩)] (w.alloc X) fun e w' => e = .returned (.tuple #[.int .i64 v.met.1, .int .i64 v.sh]) ∧ RV G r v.met.2 w' ∧ Kp G w w' ∧ w'.heap[w.heap.size]? = some (.cells #[.int .i64 m0, .int .i64 m1, .int .i64 m2, .int .i64 m3] 30 (0, 0)) ∧ w.heap.size < w'.heap.size) := (meets_c G r v _ (h.below hbA) hn).mono (by
    rintro e w' ⟨rfl, h1, h2⟩
    refine ⟨rfl, h1, (Kp.of_below hbA).trans h2, ?_, by have := h2.size; omega⟩
    rw [h2.block _ (by omega) (fun h' => by have := h.low _ h'; omega), heap_alloc_new, hX])
  have hs := met_st v
  have HN : Hid (¬ G w.heap.size) := fun h' => by have := h.low _ h'; omega
  by_cases hm : v.met.1 = 0
  · have HE : Hid (v.create name m0 m1 m2 m3 = ((v.st.create name m0 m1 m2 m3).1, v.met.2.on (v.st.create name m0 m1 m2 m3).2)) := by show _ = _; unfold Vs.create; rw [if_neg (by simp [hm])]
    have hrd : v.met.2.round = v.round := by
      unfold Vs.met Vs.tick Vs.cut
      repeat' split
      all_goals rfl
    obtain ⟨B, hBd⟩ : ∃ x, x = (v.st.create name m0 m1 m2 m3).1.1 := ⟨_, rfl⟩
    obtain ⟨E, hE⟩ : ∃ x, x = (v.st.create name m0 m1 m2 m3).1.2 := ⟨_, rfl⟩
    obtain ⟨V, hV⟩ : ∃ x, x = v.met.2.on (v.st.create name m0 m1 m2 m3).2 := ⟨_, rfl⟩
    have HV : Hid (∀ d pv Fd w1, RVo G r v.met.2 w1 d pv Fd → Kp G w w1 → ∀ W, Alike w1 W → Calls Tryz.prog 64 #[.pointer (some ⟨d, 0, none⟩), .string name, .agg #[.int .i64 m0, .int .i64 m1, .int .i64 m2, .int .i64 m3]] W fun e w' => e = .returned (.tuple #[.int .i64 B, .int .i64 E]) ∧ RDid G r V w w' ∧ w'.cell? ⟨r, 4, none⟩ = some (.int .i64 v.round)) := fun d pv Fd w1 O hk W hA => by
      have OW := O.below hA.below
      refine (create_c Fd d v.met.2.st name m0 m1 m2 m3 W OW.disk (by rw [hs]; exact hw)).mono ?_
      rintro e w' ⟨rfl, h1⟩
      rw [hs] at h1 ⊢
      rw [hBd, hE, hV]
      have hd := RDid.after ⟨d, pv, Fd, OW⟩ (hk.kept hA.below) (OW.did0 h1)
      refine ⟨rfl, hd, ?_⟩
      obtain ⟨d', pv', Fd', O'⟩ := hd.1
      have := O'.cells.2.2.2.2.1
      rw [show (v.met.2.on (v.st.create name m0 m1 m2 m3).2).round = v.round from hrd] at this
      exact this
    have HBad : Hid (∀ W W', E ≠ 0 → RDid G r V w W → Below W.heap.size W W' → RMade G r v V name B E w W' (.pointer none)) := fun W W' h0 h1 h3 => ⟨(h1.below h3).2, .inl ⟨h0, rfl, (h1.below h3).1⟩⟩
    have HGood : Hid (∀ W W', E = 0 → RDid G r V w W → W' = W.alloc (.cells #[.pointer (some ⟨r, 0, none⟩), .int .i64 B, .string name, .int .i64 v.round, .bool false] 152) → RMade G r v V name B E w W' (.pointer (some ⟨W.heap.size, 0, none⟩))) := fun W W' h0 h1 h2 => by
      have hb : Below W.heap.size W W' := by rw [h2]; exact (Below.refl _ W).alloc (Nat.le_refl _) _
      have hsW : W'.heap.size = W.heap.size + 1 := by rw [h2]; simp
      have hs1 := h1.2.size
      refine ⟨h1.2.kept hb, .inr ⟨h0, W.heap.size, ext G w W, rfl, ?_, h1.1.below hb, fun k hk => ?_, fun k hk => .inl hk, fun hk => ?_, hs1⟩⟩
      · show W'.heap[W.heap.size]? = _
        rw [h2, heap_alloc_new]; rfl
      · rcases hk with hk | hk
        · exact .inl hk
        · exact .inr ⟨hk.1, by omega⟩
      · have := h1.1.low _ hk; omega
    have HE2 : Hid (v.create name m0 m1 m2 m3 = ((B, E), V)) := by show _ = _; rw [HE.out, hBd, hE, hV]
    have HM : Hid (∀ w1 : World, w1.heap[w.heap.size]? = some (.cells #[.int .i64 m0, .int .i64 m1, .int .i64 m2, .int .i64 m3] 30 (0, 0)) → w1.cell? ⟨w.heap.size, 0, none⟩ = some (.int .i64 m0) ∧ w1.cell? ⟨w.heap.size, 1, none⟩ = some (.int .i64 m1) ∧ w1.cell? ⟨w.heap.size, 2, none⟩ = some (.int .i64 m2) ∧ w1.cell? ⟨w.heap.size, 3, none⟩ = some (.int .i64 m3)) := fun w1 hx => by
      refine ⟨?_, ?_, ?_, ?_⟩ <;> (rw [Lib.cell_of_heap hx]; rfl)
    rw [hm] at HRef
    clear h hw hn hm hs hbA hsA HE hrd hBd hE hV
    subst hX
    have hE0 : E = 0 ∨ (E ≠ 0 ∧ ((E : Int) == 0) = false) := by
      rcases Nat.eq_zero_or_pos E with h | h
      · exact .inl h
      · exact .inr ⟨by omega, by simp; omega⟩
    rcases hE0 with rfl | ⟨h0, b1⟩
    · go_enter Tryz.func43, Tryz.ntmps43
      go_wp2_with (go_at_call 56; refine HRef.out.mono ?_; rintro e w1 ⟨rfl, ⟨d, pv, Fd, O1⟩, hk1, hx1, hl1⟩; have c0 := O1.cell0; have hql := O1.lt; obtain ⟨y0, y1, y2, y3⟩ := HM.out w1 hx1)
      have HC : Hid (∀ W, Alike w1 W → Calls Tryz.prog 64 #[.pointer (some ⟨d, 0, none⟩), .string name, .agg #[.int .i64 m0, .int .i64 m1, .int .i64 m2, .int .i64 m3]] W fun e w' => e = .returned (.tuple #[.int .i64 B, .int .i64 (0 : Nat)]) ∧ RDid G r V w w' ∧ w'.cell? ⟨r, 4, none⟩ = some (.int .i64 v.round)) := HV.out d pv Fd w1 O1 hk1
      clear O1 hk1 hx1 hl1 HV
      go_region_with (go_at_call 64; refine (HC.out _ (Alike.mk ?_ ?_ ?_ ?_)).mono ?_; rfl; rfl; rfl; rfl; rintro e w2 ⟨rfl, hd2, d4⟩)
      all_goals
        go_wp2
        go_returns
        rw [HE2.out]
        exact ⟨_, rfl, HGood.out w2 _ (by first | rfl | trivial) hd2 rfl⟩
    · have HE0 : Hid (E ≠ 0) := h0
      have b2 : ((E : Int) != 0) = true := by simp [bne, b1]
      clear h0
      go_enter Tryz.func43, Tryz.ntmps43
      go_wp2_with (go_at_call 56; refine HRef.out.mono ?_; rintro e w1 ⟨rfl, ⟨d, pv, Fd, O1⟩, hk1, hx1, hl1⟩; have c0 := O1.cell0; have hql := O1.lt; obtain ⟨y0, y1, y2, y3⟩ := HM.out w1 hx1)
      have HC : Hid (∀ W, Alike w1 W → Calls Tryz.prog 64 #[.pointer (some ⟨d, 0, none⟩), .string name, .agg #[.int .i64 m0, .int .i64 m1, .int .i64 m2, .int .i64 m3]] W fun e w' => e = .returned (.tuple #[.int .i64 B, .int .i64 E]) ∧ RDid G r V w w' ∧ w'.cell? ⟨r, 4, none⟩ = some (.int .i64 v.round)) := HV.out d pv Fd w1 O1 hk1
      clear O1 hk1 hx1 hl1 HV
      go_region_with (go_at_call 64; refine (HC.out _ (Alike.mk ?_ ?_ ?_ ?_)).mono ?_; rfl; rfl; rfl; rfl; rintro e w2 ⟨rfl, hd2, d4⟩)
      all_goals
        go_wp2
        go_returns
        rw [HE2.out]
        exact ⟨_, rfl, HBad.out w2 _ HE0.out hd2 (Alike.below ⟨rfl, rfl, rfl, rfl⟩)⟩
  · have HE : Hid (v.create name m0 m1 m2 m3 = ((0, v.met.1), v.met.2)) := by show _ = _; unfold Vs.create; rw [if_pos hm]
    have HOf : Hid (∀ W, RV G r v.met.2 W → Kp G w W → RMade G r v v.met.2 name 0 v.met.1 w W (.pointer none)) := fun W h1 h2 => ⟨h2, .inl ⟨hm, rfl, (RDid.of h1 h2).1⟩⟩
    have b1 : ((v.met.1 : Int) == 0) = false := by simp; omega
    obtain ⟨E, hE⟩ : ∃ E, E = v.met.1 := ⟨_, rfl⟩
    rw [← hE] at HRef HE b1 HOf
    have b2 : ((E : Int) != 0) = true := by simp [bne, b1]
    clear hm hE h hn hw hs hbA hsA
    subst hX
    go_enter Tryz.func43, Tryz.ntmps43
    go_wp2_with (go_at_call 56; refine HRef.out.mono ?_; rintro e w1 ⟨rfl, hv1, hk1, hx1, hl1⟩)
    go_returns
    rw [HE.out]
    exact ⟨_, rfl, HOf.out _ hv1 hk1⟩
end Go.Proofs.YtofmiaaglbcebaaGreatDoor
