
-- elf.Header: contracts.
import Derived.Test.YtmoapdecacnmpaaDoorG1
import Derived.Test.YtmoapdecacnmpaaDoorH0
namespace Go.Proofs.YtmoapdecacnmpaaDoor
open Go.ChangeShapes Go.WideShapes Go.ChangeAt Go.RowKit
set_option linter.unusedVariables false
theorem Magic.kept {w w' : World} (h : Magic w) (hb : Below w.heap.size w w') : Magic w' := by
  have h0 : 0 < w.heap.size := block_lt_of_cell h.1
  obtain ⟨m0, m1, m2, m3⟩ := h
  exact ⟨(hb.cell h0).trans m0, (hb.cell h0).trans m1, (hb.cell h0).trans m2, (hb.cell h0).trans m3⟩
theorem results_cell_cell_row {P : Program} {fn : Func} {p q : Tmp} {ty tz : TypeId} (h : fn.results = #[.cell p ty, .cell q tz]) (tmps : Array Value) (w : World) (g e : Nat) (t : TypeId) (cs : Array Value) (fr : Nat × Nat) (d : TypeDesc) (x : Value)
    (hp : tmps.getD p undef = .pointer (some ⟨g, 0, none⟩)) (hq : tmps.getD q undef = .pointer (some ⟨e, 0, none⟩)) (hg : w.heap[g]? = some (.cells cs t fr))
    (hu : P.underlying ty = some d) (hd : (match d with | .struct _ | .array _ _ => true | _ => false) = true) (hi : (P.info? ty).map (·.size) = some cs.size)
    (hx : (loadVar tz ⟨e, 0, none⟩).run P w = .ok x w) :
    (results fn tmps).run P w = .ok (.tuple #[.agg cs, x]) w := by
  have hp' : tmps[p]?.getD undef = .pointer (some ⟨g, 0, none⟩) := by simpa using hp
  have hq' : tmps[q]?.getD undef = .pointer (some ⟨e, 0, none⟩) := by simpa using hq
  simp [results, h, hp', hq', asAddr, run_loadVar_row w g t ty cs fr d hg hu hd hi, hx]
theorem load_errno {w : World} {e : Nat} {v : Value} (h : w.cell? ⟨e, 0, none⟩ = some v) : (loadVar 23 ⟨e, 0, none⟩).run Tryd.prog w = .ok v w := by
  have u := Tryd.underlying23
  have a := Tryd.isAgg23
  simp [go_sem, h]
/-- the two blocks of a face: its struct, its error -/
theorem face_rows {w w2 : World} (hb : Below ((w.alloc (.cells #[.int .i64 0, .int .i64 0, .int .i64 0, .int .i64 0, .int .u64 0, .int .i64 0, .int .i64 0, .int .i64 0] 32)).alloc (.cells #[.int .i64 0] 23)).heap.size ((w.alloc (.cells #[.int .i64 0, .int .i64 0, .int .i64 0, .int .i64 0, .int .u64 0, .int .i64 0, .int .i64 0, .int .i64 0] 32)).alloc (.cells #[.int .i64 0] 23)) w2) :
    w2.heap[w.heap.size]? = some (.cells #[.int .i64 0, .int .i64 0, .int .i64 0, .int .i64 0, .int .u64 0, .int .i64 0, .int .i64 0, .int .i64 0] 32 (0, 0)) ∧ w2.heap[w.heap.size + 1]? = some (.cells #[.int .i64 0] 23 (0, 0)) ∧ Below w.heap.size w w2 := by
  have s : ((w.alloc (.cells #[.int .i64 0, .int .i64 0, .int .i64 0, .int .i64 0, .int .u64 0, .int .i64 0, .int .i64 0, .int .i64 0] 32)).alloc (.cells #[.int .i64 0] 23)).heap.size = w.heap.size + 2 := by rw [size_alloc, size_alloc]
  rw [s] at hb
  refine ⟨(hb.block _ (by omega)).trans (heap_alloc2_old w _ _), (hb.block _ (by omega)).trans (heap_alloc2_new w _ _), ?_⟩
  exact (Below.alloc (Below.alloc (Below.refl _ _) (Nat.le_refl _) _) (by rw [size_alloc]; exact Nat.le_succ _) _).trans (hb.mono (by omega))
theorem face_magic {w : World} (hM : Magic w) : Magic ((w.alloc (.cells #[.int .i64 0, .int .i64 0, .int .i64 0, .int .i64 0, .int .u64 0, .int .i64 0, .int .i64 0, .int .i64 0] 32)).alloc (.cells #[.int .i64 0] 23)) := hM.kept (Below.alloc (Below.alloc (Below.refl _ _) (Nat.le_refl _) _) (by rw [size_alloc]; exact Nat.le_succ _) _)
set_option maxHeartbeats 1000000 in
theorem Header_ok (b : ByteArray) (w : World) (hM : Magic w) (hm : b.size ≤ maxLen) (hE : identE b = 0) (hv : Array Value) (hz : hv.size = 8) (h1 : hv.all (·.oneCell') = true)
    (hH : ∀ (w : World) (k : Nat), FileAt b k w → Calls Tryd.prog 18 #[.pointer (some ⟨k, 0, none⟩)] w fun r w' => r = .returned (.agg hv) ∧ Below w.heap.size w w') :
    Calls Tryd.prog 9 #[.string b] w fun r w' => r = .returned (.tuple #[.agg hv, .int .i64 0]) ∧ Below w.heap.size w w' := by
  have hmf : ∀ (fn : Fn) (first cap : Array Value) (w : World), (Instr.makeFunc fn first cap).run Tryd.prog w = .ok (.func fn first cap) w := fun _ _ _ _ => rfl
  have HI : Hid (∀ w, Magic w → Calls Tryd.prog 16 #[.string b] w fun r w' => ∃ k, r = .returned (.pointer (some ⟨k, 0, none⟩)) ∧ Below w.heap.size w w' ∧ FileAt b k w') := fun w hM =>
    (identify_c b w hM hm).mono fun r w' ⟨h1, h2⟩ => by
      rcases h2 with ⟨_, k, h3, h4, h5⟩ | ⟨h, _⟩
      · exact ⟨k, h3, h1, h5⟩
      · exact absurd hE h
  have HH := Hid.mk' hH
  clear hm hH
  go_enter_defers Tryd.func9, Tryd.ntmps9
  go_wp2_with (first
    | (go_at_call 16; refine (HI.out _ (face_magic hM)).mono ?_; rintro r w1 ⟨k, rfl, hb1, hF⟩)
    | (go_at_call 18; refine (HH.out _ _ hF).mono ?_; rintro r w2 ⟨rfl, hb2⟩; obtain ⟨hR, hR1, hB⟩ := face_rows (hb1.trans (hb2.mono hb1.size)); have hR2 : (w2.setRow w.heap.size hv).heap[w.heap.size + 1]? = some (.cells #[.int .i64 0] 23 (0, 0)) := (setRow_other _ _ _ _ (by omega)).trans hR1; have hc := cell_of_row _ _ 0 _ _ _ hR2; have hf := frozen_of_row _ _ 0 _ _ hR2)
    | (refine wpList_store_row rfl _ _ _ rfl w.heap.size hv rfl rfl _ _ hR (by rw [hz]; rfl) (by rw [hz]; kernel_rfl) h1 ?_))
  simp only [List.getElem?_toArray, List.getElem?_cons_zero] at hc
  have hc2 : ((w2.setRow w.heap.size hv).setCell ⟨w.heap.size + 1, 0, none⟩ (.int .i64 0)).cell? ⟨w.heap.size + 1, 0, none⟩ = some (.int .i64 0) := World.cell?_setCell_same _ _ _ hc
  have hz2 : ((w2.setRow w.heap.size hv).setCell ⟨w.heap.size + 1, 0, none⟩ (.int .i64 0)).frozen? ⟨w.heap.size + 1, 0, none⟩ = false := (World.frozen?_setCell _ _ _ _).trans hf
  refine leaves_cons (f := 17) (args := #[.pointer (some ⟨w.heap.size + 1, 0, none⟩)]) (by simp) (by simp [go_sem]) ?_
  refine (idle_Header ⟨w.heap.size + 1, 0, none⟩ _ _ hc2 hz2).mono ?_
  rintro r u' w'' ⟨rfl, rfl, rfl⟩
  refine ⟨_, results_cell_cell_row rfl _ _ w.heap.size (w.heap.size + 1) 32 hv (0, 0) _ _ rfl rfl ?_ Tryd.underlying32 rfl (by rw [hz]; kernel_rfl) (load_errno (World.cell?_setCell_same _ _ _ hc2)), rfl, ?_⟩
  · rw [heap_setCell_other _ _ _ _ (by simp), heap_setCell_other _ _ _ _ (by simp)]
    exact setRow_heap _ _ _ _ _ _ hR
  · exact Below.setCell (Below.setCell (below_setRow hB (Nat.le_refl _) _) (Nat.le_succ _) _) (Nat.le_succ _) _
set_option maxHeartbeats 1000000 in
theorem Header_no (b : ByteArray) (w : World) (hM : Magic w) (hm : b.size ≤ maxLen) (hE : identE b ≠ 0) :
    Calls Tryd.prog 9 #[.string b] w fun r w' => r = .returned (.tuple #[.agg #[.int .i64 0, .int .i64 0, .int .i64 0, .int .i64 0, .int .u64 0, .int .i64 0, .int .i64 0, .int .i64 0], .int .i64 (identE b)]) ∧ Below w.heap.size w w' := by
  have hmf : ∀ (fn : Fn) (first cap : Array Value) (w : World), (Instr.makeFunc fn first cap).run Tryd.prog w = .ok (.func fn first cap) w := fun _ _ _ _ => rfl
  have HI : Hid (∀ w, Magic w → Calls Tryd.prog 16 #[.string b] w fun r w' => r = .panicked (gives (identE b)) ∧ Below w.heap.size w w') := fun w hM =>
    (identify_c b w hM hm).mono fun r w' ⟨h1, h2⟩ => by
      rcases h2 with ⟨h, _⟩ | ⟨_, h⟩
      · exact absurd h hE
      · exact ⟨h, h1⟩
  clear hm
  go_enter_defers Tryd.func9, Tryd.ntmps9
  go_wp2_with (first
    | (go_at_call 16; refine (HI.out _ (face_magic hM)).mono ?_; rintro r w2 ⟨rfl, hb1⟩))
  obtain ⟨hR, hR1, hB⟩ := face_rows hb1
  have hc : w2.cell? ⟨w.heap.size + 1, 0, none⟩ = some (.int .i64 0) := cell_of_row _ _ 0 _ _ _ hR1
  have hf := frozen_of_row _ _ 0 _ _ hR1
  refine leaves_cons (f := 17) (args := #[.pointer (some ⟨w.heap.size + 1, 0, none⟩)]) (by simp) (by simp [go_sem]) ?_
  refine (catch_Header ⟨w.heap.size + 1, 0, none⟩ _ _ _ hc hf).mono ?_
  rintro r u' w'' ⟨rfl, rfl, rfl⟩
  refine ⟨_, results_cell_cell_row rfl _ _ w.heap.size (w.heap.size + 1) 32 _ (0, 0) _ _ rfl rfl ?_ Tryd.underlying32 rfl (by kernel_rfl) (load_errno (World.cell?_setCell_same _ _ _ hc)), rfl, ?_⟩
  · exact (heap_setCell_other _ _ _ _ (by simp)).trans hR
  · exact Below.setCell hB (Nat.le_succ _) _
set_option maxHeartbeats 1000000 in
theorem Header_cut (b : ByteArray) (w : World) (hM : Magic w) (hm : b.size ≤ maxLen) (hE : identE b = 0)
    (hH : ∀ (w : World) (k : Nat), FileAt b k w → Calls Tryd.prog 18 #[.pointer (some ⟨k, 0, none⟩)] w fun r w' => r = .panicked (gives 54) ∧ Below w.heap.size w w') :
    Calls Tryd.prog 9 #[.string b] w fun r w' => r = .returned (.tuple #[.agg #[.int .i64 0, .int .i64 0, .int .i64 0, .int .i64 0, .int .u64 0, .int .i64 0, .int .i64 0, .int .i64 0], .int .i64 54]) ∧ Below w.heap.size w w' := by
  have hmf : ∀ (fn : Fn) (first cap : Array Value) (w : World), (Instr.makeFunc fn first cap).run Tryd.prog w = .ok (.func fn first cap) w := fun _ _ _ _ => rfl
  have HI : Hid (∀ w, Magic w → Calls Tryd.prog 16 #[.string b] w fun r w' => ∃ k, r = .returned (.pointer (some ⟨k, 0, none⟩)) ∧ Below w.heap.size w w' ∧ FileAt b k w') := fun w hM =>
    (identify_c b w hM hm).mono fun r w' ⟨h1, h2⟩ => by
      rcases h2 with ⟨_, k, h3, h4, h5⟩ | ⟨h, _⟩
      · exact ⟨k, h3, h1, h5⟩
      · exact absurd hE h
  have HH := Hid.mk' hH
  clear hm hH
  go_enter_defers Tryd.func9, Tryd.ntmps9
  go_wp2_with (first
    | (go_at_call 16; refine (HI.out _ (face_magic hM)).mono ?_; rintro r w1 ⟨k, rfl, hb1, hF⟩)
    | (go_at_call 18; refine (HH.out _ _ hF).mono ?_; rintro r w2 ⟨rfl, hb2⟩))
  obtain ⟨hR, hR1, hB⟩ := face_rows (hb1.trans (hb2.mono hb1.size))
  have hc : w2.cell? ⟨w.heap.size + 1, 0, none⟩ = some (.int .i64 0) := cell_of_row _ _ 0 _ _ _ hR1
  have hf := frozen_of_row _ _ 0 _ _ hR1
  refine leaves_cons (f := 17) (args := #[.pointer (some ⟨w.heap.size + 1, 0, none⟩)]) (by simp) (by simp [go_sem]) ?_
  refine (catch_Header ⟨w.heap.size + 1, 0, none⟩ _ _ _ hc hf).mono ?_
  rintro r u' w'' ⟨rfl, rfl, rfl⟩
  refine ⟨_, results_cell_cell_row rfl _ _ w.heap.size (w.heap.size + 1) 32 _ (0, 0) _ _ rfl rfl ?_ Tryd.underlying32 rfl (by kernel_rfl) (load_errno (World.cell?_setCell_same _ _ _ hc)), rfl, ?_⟩
  · exact (heap_setCell_other _ _ _ _ (by simp)).trans hR
  · exact Below.setCell hB (Nat.le_succ _) _
end Go.Proofs.YtmoapdecacnmpaaDoor
