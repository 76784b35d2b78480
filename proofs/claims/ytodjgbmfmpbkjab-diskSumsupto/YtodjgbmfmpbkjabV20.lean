-- Crash.
import Derived.Test.YtodjgbmfmpbkjabV18
namespace Go.Proofs.Ytodjgbmfmpbkjab
open Go.RowKit
set_option linter.unusedVariables false
set_option maxHeartbeats 8000000 in
theorem goBack_nil (F : Nat → Prop) (p cap made : Nat) (bs : List Bd) (w : World) (vt vp : Value) (hp : w.heap[p]? = some (.cells (diskV cap made (.map none) (.map none) vt (.map none) vp) 66 (0, 0))) (hF : F p) (ho : w.ownsRow 0 77 3 vp 0 []) (hoF : ∀ k, vp.ownBlock = some k → F k) :
    Calls Try.prog 49 #[.pointer (some ⟨p, 0, none⟩)] w fun e w' => e = .returned (.tuple #[]) ∧ Raw (ext F w w') p cap made [] [] [] [] [] bs w' ∧ Kp F w w' := by
  obtain ⟨c0, c1, c2, c3, c4, c5, c6⟩ := disk_cells hp
  have hpl := blk_lt hp
  have HCL : Hid (Calls Try.prog 71 #[.map none] w fun e w' => e = .returned (.map none) ∧ w' = w) := clone_nil w
  have p1 : (w.setCell ⟨p, 2, none⟩ (.map none)).heap[p]? = some (.cells (diskV cap made (.map none) (.map none) vt (.map none) vp) 66 (0, 0)) := blk_set hp _
  obtain ⟨w1, hw1⟩ : ∃ W, W = w.setCell ⟨p, 2, none⟩ (.map none) := ⟨_, rfl⟩
  have s1 : w1.heap.size = w.heap.size := by rw [hw1]; simp [World.setCell]
  have o1 : ∀ k, k ≠ p → w1.heap[k]? = w.heap[k]? := fun k hk => by rw [hw1]; exact Below.heap_setCell _ _ _ _ hk
  have x1 : w1.os = w.os ∧ w1.tape = w.tape ∧ w1.output = w.output := by rw [hw1]; exact ⟨rfl, rfl, rfl⟩
  rw [← hw1] at p1
  have t1 := hw1.symm
  have hr2 := mk_run_h 63 _ _ Try.underlying63 0 w1
  obtain ⟨w2, hw2⟩ : ∃ W, W = w1.alloc (.map #[] 0) := ⟨_, rfl⟩
  have s2 : w2.heap.size = w.heap.size + 1 := by rw [hw2]; simp [s1]
  have o2 : ∀ k, k < w1.heap.size → w2.heap[k]? = w1.heap[k]? := fun k hk => by rw [hw2]; exact Lib.alloc_old w1 _ k hk
  have x2 : w2.os = w1.os ∧ w2.tape = w1.tape ∧ w2.output = w1.output := by rw [hw2]; exact ⟨rfl, rfl, rfl⟩
  have n2 : w2.heap[w.heap.size]? = some (.map #[] 0) := by rw [hw2, ← s1]; exact heap_alloc_new w1 _
  rw [← hw2, s1] at hr2
  have p2 : w2.heap[p]? = some (.cells (diskV cap made (.map none) (.map none) vt (.map none) vp) 66 (0, 0)) := (o2 p (by omega)).trans p1
  obtain ⟨w3, hr3, hg3, hb3, hs3⟩ := (show MapV .string w2 (.map none) [] from .inl ⟨rfl, rfl⟩).range (P := Try.prog) Try.underlying62
  have p3 : w3.heap[p]? = some (.cells (diskV cap made (.map none) (.map none) vt (.map none) vp) 66 (0, 0)) := (hb3.block p (by omega)).trans p2
  have p4 : (w3.setCell ⟨p, 4, none⟩ (.map (some w.heap.size))).heap[p]? = some (.cells (diskV cap made (.map none) (.map none) (.map (some w.heap.size)) (.map none) vp) 66 (0, 0)) := blk_set p3 _
  obtain ⟨w4, hw4⟩ : ∃ W, W = w3.setCell ⟨p, 4, none⟩ (.map (some w.heap.size)) := ⟨_, rfl⟩
  have s4 : w4.heap.size = w3.heap.size := by rw [hw4]; simp [World.setCell]
  have o4 : ∀ k, k ≠ p → w4.heap[k]? = w3.heap[k]? := fun k hk => by rw [hw4]; exact Below.heap_setCell _ _ _ _ hk
  have x4 : w4.os = w3.os ∧ w4.tape = w3.tape ∧ w4.output = w3.output := by rw [hw4]; exact ⟨rfl, rfl, rfl⟩
  rw [← hw4] at p4
  have t4 := hw4.symm
  have old : ∀ k, k < w.heap.size → k ≠ p → w4.heap[k]? = w.heap[k]? := fun k hk hne => by rw [o4 k hne, hb3.block k (by omega), o2 k (by omega), o1 k hne]
  have HR : Hid (Raw (ext F w w4) p cap made [] [] [] [] [] bs w4 ∧ Kp F w w4) := by
    refine ⟨⟨_, _, _, _, vp, p4, .inl hF, .inl ⟨rfl, rfl, rfl, rfl, rfl, rfl, rfl, .inr ⟨w.heap.size, rfl, .inr ⟨Nat.le_refl _, by omega⟩, em ?_⟩⟩, own_keep ho fun k hk => ?_, fun k hk => .inl (hoF k hk), ⟨by simp, by simp, by simp, by simp⟩, fun _ => rfl⟩, ?_⟩
    · rw [o4 _ (by omega), hb3.block _ (by omega), n2]
    · obtain ⟨cur, hh⟩ := own_typed ho hk
      exact old k (blk_lt hh) (fun e => typed_ne hh hp (by decide) e)
    · exact ⟨x4.1.trans (hb3.os.trans (x2.1.trans x1.1)), x4.2.1.trans (hb3.tape.trans (x2.2.1.trans x1.2.1)), x4.2.2.trans (hb3.output.trans (x2.2.2.trans x1.2.2)), by omega, fun k hk hne => old k hk (fun e => hne (e ▸ hF))⟩
  have y2 : w1.cell? ⟨p, 2, none⟩ = some (.map none) := (disk_cells p1).2.2.1
  have z2 : w.frozen? ⟨p, 2, none⟩ = false := Lib.frozen_of_heap hp 2
  have y2b : w2.cell? ⟨p, 2, none⟩ = some (.map none) := (disk_cells p2).2.2.1
  have y4 : w3.cell? ⟨p, 4, none⟩ = some vt := (disk_cells p3).2.2.2.2.1
  have z4 : w3.frozen? ⟨p, 4, none⟩ = false := Lib.frozen_of_heap p3 4
  have y5 : w4.cell? ⟨p, 5, none⟩ = some (.map none) := (disk_cells p4).2.2.2.2.2.1
  have HNX : Hid (∀ ty, (Instr.next (.pointer (some ⟨w2.heap.size, 0, none⟩)) false ty).run Try.prog w3 = .ok (.tuple #[.bool false]) w3) := by
    rcases hg3.next (P := Try.prog) with ⟨_, h⟩ | ⟨_, _, _, h, _⟩
    · exact h
    · exact absurd h.length_eq (by simp)
  have HLN : Hid (∀ W ty, (Builtin.len_ #[62] ty #[.map none]).run Try.prog W = .ok (.int .i64 0) W) := fun W ty => len_nil Try.underlying62 ty
  have HCR : Hid (∀ ty, (Builtin.clear_ #[63] ty #[.map none]).run Try.prog w4 = .ok (.tuple #[]) w4) := fun ty => clear_nil Try.underlying63 ty
  obtain ⟨r, hr⟩ : ∃ r, r = w2.heap.size := ⟨_, rfl⟩
  rw [← hr] at HNX hr3
  obtain ⟨q, hq⟩ : ∃ q, q = w.heap.size := ⟨_, rfl⟩
  rw [← hq] at hr2 t4
  clear hw1 hw2 hw4 s1 o1 x1 p1 s2 o2 x2 n2 p2 hg3 hb3 hs3 p3 p4 s4 o4 x4 old ho hoF hp hr hq hpl c0 c1 c4 c5 c6
  go_enter Try.func49, Try.ntmps49
  go_wp2_with (go_at_call 71; refine HCL.out.mono ?_; rintro e w9 ⟨rfl, hw9⟩; subst w9)
  refine wp_loop_rounds 1 ?_
  rw [rounds_succ]
  have hnx := HNX.out
  have hcr := HCR.out
  go_wp2_with (at_builtin; refine wp_clear _ rfl _ 63 rfl _ rfl w4 (hcr _) ?_)
  go_end0
  exact ⟨rfl, HR.out⟩
/-- goBack, whichever the maps are. -/
theorem goBack_p (F : Nat → Prop) (p cap made : Nat) (now d0 : Dr) (T K : List (Nat × Nat)) (bs : List Bd) (w : World) (h : Raw F p cap made now d0 [] T K bs w) (hu : (d0.map (·.2)).Nodup) (hall : ∀ e ∈ d0, e.2 ∈ T.map (·.1) ∨ e.2 ∈ K.map (·.1)) (hFl : ∀ k, F k → k < w.heap.size) :
    Calls Try.prog 49 #[.pointer (some ⟨p, 0, none⟩)] w fun e w' => e = .returned (.tuple #[]) ∧ (∃ B, Back T K d0 [] B ∧ Raw (ext F w w') p cap made d0 d0 [] B [] bs w') ∧ Kp F w w' := by
  obtain ⟨vd, vs, vt, vk, vp, hp, hF, hm, ho, hoF, hb, hn⟩ := h
  rcases hm with ⟨rfl, rfl, rfl, rfl, rfl, rfl, rfl, h8⟩ | ⟨bd, bf, bt, bk, rfl, rfl, rfl, rfl, f1, f2, f3, f4, n1, n2, n3, n4, n5, n6, m1, m2, m3, m4⟩
  · refine (goBack_nil F p cap made bs w vt vp hp hF ho hoF).mono ?_
    rintro e w' ⟨rfl, h1, h2⟩
    exact ⟨rfl, ⟨[], ⟨by simp, by simp⟩, h1⟩, h2⟩
  · exact goBack_c F p cap made now d0 T K bs w bd bf bt bk vp ⟨hp, hF, f1, f2, f3, f4, n1, n2, n3, n4, n5, n6, m1, m2, m3, m4, ho, hoF, hb⟩ hu hall hFl
end Go.Proofs.Ytodjgbmfmpbkjab
