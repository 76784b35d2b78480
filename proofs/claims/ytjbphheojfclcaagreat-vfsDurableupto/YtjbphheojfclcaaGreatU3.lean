
-- The device that fails, around the disk.
import Derived.Test.YtjbphheojfclcaaGreatU2
namespace Go.Proofs.YtjbphheojfclcaaGreat
open Go.RowKit
set_option linter.unusedVariables false
variable {PS : (Nat → Prop) → Nat → St → World → Prop}
set_option maxHeartbeats 4000000 in
theorem refusal_c (C : PC PS) (G : Nat → Prop) (q : Nat) (v : Vs) (w : World) (h : PV PS G q v w) (hn : v.cnt ≤ 4194304) :
    Calls Tryz.prog 141 #[.pointer (some ⟨q, 0, none⟩)] w fun e w' => e = .returned (.int .i64 v.met.1) ∧ PV PS G q v.met.2 w' ∧ Kp G w w' := by
  have HC : Hid (Calls Tryz.prog 142 #[.pointer (some ⟨q, 0, none⟩)] w fun e w' => e = .returned (.tuple #[.agg #[.int .i64 v.fault.at_, .int .i64 v.fault.kind, .int .i64 v.fault.n], .int .i64 v.met.1]) ∧ PV PS G q v.met.2 w' ∧ Kp G w w') := count_c C G q v w h hn
  have HB : Hid (∀ W W', PV PS G q v.met.2 W → Kp G w W → Below W.heap.size W W' → PV PS G q v.met.2 W' ∧ Kp G w W') := fun W W' h1 h2 h3 => ⟨h1.below C h3, h2.kept h3⟩
  clear h hn
  go_enter Tryz.func141, Tryz.ntmps141
  go_wp2_with (go_at_call 142; refine HC.out.mono ?_; rintro e w1 ⟨rfl, hv1, hk1⟩)
  go_ret
  exact ⟨rfl, HB.out _ _ hv1 hk1 (by go_grown)⟩
theorem PVo.box (C : PC PS) {G Fd : Nat → Prop} {q p : Nat} {m : Option Nat} {v : Vs} {w : World} (O : PVo PS G q v w p m Fd) (X : Obj) : PVo PS G q v (w.alloc X) p m Fd ∧ Kp G w (w.alloc X) ∧ ¬ G w.heap.size := by
  have hb : Below w.heap.size w (w.alloc X) := (Below.refl _ w).alloc (Nat.le_refl _) X
  exact ⟨O.same C hb.size fun k _ hk => hb.block k hk, Kp.of_below hb, fun h => by have := O.low _ h; omega⟩
/-- The box of the volume that a method makes of its receiver. -/
def volB (p : Nat) : Obj := .cells #[.pointer (some ⟨p, 0, none⟩)] 119 (0, 0)
/-- Behind a box and a question: all is as before, and the box. -/
theorem PVo.asked (C : PC PS) {G Fd : Nat → Prop} {q p : Nat} {m : Option Nat} {v : Vs} {w w' : World} (O : PVo PS G q v w p m Fd) (h : PS Fd p v.st w' ∧ Kp Fd (w.alloc (volB p)) w') : PVo PS G q v w' p m Fd ∧ Kp G w w' ∧ w'.cell? ⟨w.heap.size, 0, none⟩ = some (.pointer (some ⟨p, 0, none⟩)) := by
  obtain ⟨OB, kB, nB⟩ := O.box C (volB p)
  obtain ⟨O1, k1⟩ := OB.ask h
  refine ⟨O1, kB.trans k1, ?_⟩
  have : w'.heap[w.heap.size]? = some (volB p) := by rw [k1.block w.heap.size (by simp) nB, heap_alloc_new]
  rw [Lib.cell_of_heap this]; rfl
/-- Behind a box and a change. -/
theorem PVo.changed (C : PC PS) {G Fd : Nat → Prop} {q p : Nat} {m : Option Nat} {v : Vs} {w w' : World} {st : St} (O : PVo PS G q v w p m Fd) (h : PDid PS Fd p st (w.alloc (volB p)) w') : VDid PS G q (v.on st) w w' ∧ w'.cell? ⟨w.heap.size, 0, none⟩ = some (.pointer (some ⟨p, 0, none⟩)) := by
  obtain ⟨OB, kB, nB⟩ := O.box C (volB p)
  obtain ⟨O1, k1⟩ := OB.did h
  refine ⟨(VDid.of ⟨p, m, Fd, OB⟩ kB).then (v' := v.on st) ?_, ?_⟩
  · refine ⟨⟨p, m, _, O1.mono (fun k hk => ?_) (fun k hk => ?_)⟩, k1.mono' ?_⟩
    · rcases hk with hk | hk
      · exact .inl (.inl hk)
      · exact .inr hk
    · rcases hk with (hk | hk) | hk
      · have := OB.low k hk; have := k1.size; omega
      · have := k1.size; omega
      · exact hk.2
    · exact fun k hk => .inl hk
  · have : w'.heap[w.heap.size]? = some (volB p) := by rw [k1.block w.heap.size (by simp) nB, heap_alloc_new]
    rw [Lib.cell_of_heap this]; rfl
theorem PVo.changed0 (C : PC PS) {G Fd : Nat → Prop} {q p : Nat} {m : Option Nat} {v : Vs} {w w' : World} {st : St} (O : PVo PS G q v w p m Fd) (h : PDid PS Fd p st w w') : VDid PS G q (v.on st) w w' :=
  ⟨⟨p, m, _, (O.did h).1⟩, (O.did h).2⟩
/-- What the disk answers to a reading of a file. -/
def St.readN (st : St) (name : ByteArray) : ByteArray × Nat := if (st.find name).2.2 ≠ 0 then (⟨#[]⟩, (st.find name).2.2) else st.read (st.find name).2.1
set_option maxHeartbeats 4000000 in
theorem vRead_c (C : PC PS) (G Fd : Nat → Prop) (q p : Nat) (m : Option Nat) (v : Vs) (name : ByteArray) (w : World) (O : PVo PS G q v w p m Fd) (hw : Wf v.st) :
    Calls Tryz.prog 127 #[.agg #[.pointer (some ⟨p, 0, none⟩)], .string name] w fun e w' => e = .returned (.tuple #[.string (v.st.readN name).1, .int .i64 (v.st.readN name).2]) ∧ PVo PS G q v w' p m Fd ∧ Kp G w w' := by
  have HF : Hid (Calls Tryz.prog 48 #[.pointer (some ⟨p, 0, none⟩), .string name] (w.alloc (.cells #[.pointer (some ⟨p, 0, none⟩)] 119)) fun e w' => e = .returned (.tuple #[.agg #[.int .i64 (v.st.find name).1.2.date, .int .i64 (v.st.find name).1.2.uid, .int .i64 (v.st.find name).1.2.gid, .int .i64 (v.st.find name).1.2.mode, .string (v.st.find name).1.1, .int .i64 (v.st.find name).1.2.data.size], .int .i64 (v.st.find name).2.1, .int .i64 (v.st.find name).2.2]) ∧ PVo PS G q v w' p m Fd ∧ Kp G w w' ∧ w'.cell? ⟨w.heap.size, 0, none⟩ = some (.pointer (some ⟨p, 0, none⟩))) := by
    refine (C.find Fd p v.st name _ (O.box C (volB p)).1.disk hw).mono ?_
    rintro e w' ⟨rfl, h1, h2⟩
    exact ⟨rfl, O.asked C ⟨h1, h2⟩⟩
  have HR : Hid (∀ w1, PVo PS G q v w1 p m Fd → Calls Tryz.prog 49 #[.pointer (some ⟨p, 0, none⟩), .int .i64 (v.st.find name).2.1] w1 fun e w' => e = .returned (.tuple #[.string (v.st.read (v.st.find name).2.1).1, .int .i64 (v.st.read (v.st.find name).2.1).2]) ∧ PVo PS G q v w' p m Fd ∧ Kp G w1 w') := fun w1 O => by
    refine (C.read Fd p v.st _ _ O.disk hw).mono ?_
    rintro e w' ⟨rfl, h1, h2⟩
    exact ⟨rfl, O.ask ⟨h1, h2⟩⟩
  have HAL : Hid (∀ w1 w2 W, PVo PS G q v w2 p m Fd → Kp G w w2 → Below w2.heap.size w2 W → w2.cell? ⟨w1, 0, none⟩ = some (.pointer (some ⟨p, 0, none⟩)) → PVo PS G q v W p m Fd ∧ Kp G w W ∧ W.cell? ⟨w1, 0, none⟩ = some (.pointer (some ⟨p, 0, none⟩))) := fun w1 w2 W O hk hb hc => ⟨O.same C hb.size fun k _ hk => hb.block k hk, hk.kept hb, cell_below hb hc⟩
  clear O hw
  by_cases hf : (v.st.find name).2.2 = 0
  · have HE : Hid (v.st.readN name = v.st.read (v.st.find name).2.1) := by show _ = _; unfold St.readN; rw [if_neg (by simp [hf])]
    rw [hf] at HF
    clear hf
    go_enter Tryz.func127, Tryz.ntmps127
    go_wp2_with (first
      | (go_at_call 48; refine HF.out.mono ?_; rintro e w2 ⟨rfl, O2, hk2, c2⟩; have hs2 : w.heap.size < w2.heap.size := World.block_lt_of_cell? w2 _ c2)
      | (go_at_call 49; refine (HR.out _ (HAL.out _ w2 _ O2 hk2 (by go_grown) c2).1).mono ?_; rintro e w3 ⟨rfl, O3, hk3⟩; have hk4 := (HAL.out _ w2 _ O2 hk2 (by go_grown) c2).2.1))
    go_returns
    rw [HE.out]
    exact ⟨rfl, O3, (HAL.out _ w2 _ O2 hk2 (by go_grown) c2).2.1.trans hk3⟩
  · have HE : Hid (v.st.readN name = (⟨#[]⟩, (v.st.find name).2.2)) := by show _ = _; unfold St.readN; rw [if_pos hf]
    have b1 : (((v.st.find name).2.2 : Int) == 0) = false := by simp; omega
    obtain ⟨E, hE⟩ : ∃ E, E = (v.st.find name).2.2 := ⟨_, rfl⟩
    rw [← hE] at HF HE b1
    clear hf hE
    have b2 : ((E : Int) != 0) = true := by simp [bne, b1]
    go_enter Tryz.func127, Tryz.ntmps127
    go_wp2_with (go_at_call 48; refine HF.out.mono ?_; rintro e w2 ⟨rfl, O2, hk2, c2⟩; have hs2 : w.heap.size < w2.heap.size := World.block_lt_of_cell? w2 _ c2)
    go_returns
    rw [HE.out]
    exact ⟨rfl, (HAL.out _ w2 _ O2 hk2 (by go_grown) c2).1, (HAL.out _ w2 _ O2 hk2 (by go_grown) c2).2.1⟩
end Go.Proofs.YtjbphheojfclcaaGreat
