
-- The device that fails, around the disk.
import Derived.Test.YtbbblncoicjacaaU2
namespace Go.Proofs.Ytbbblncoicjacaa
open Go.RowKit
set_option linter.unusedVariables false
variable {PS : (Nat → Prop) → Nat → St → World → Prop}
set_option maxHeartbeats 4000000 in
theorem refusal_c (C : PC PS) (G : Nat → Prop) (q : Nat) (v : Vs) (w : World) (h : PV PS G q v w) (hn : v.cnt ≤ 4194304) :
    Calls Try.prog 93 #[.pointer (some ⟨q, 0, none⟩)] w fun e w' => e = .returned (.int .i64 v.met.1) ∧ PV PS G q v.met.2 w' ∧ Kp G w w' := by
  have HC : Hid (Calls Try.prog 94 #[.pointer (some ⟨q, 0, none⟩)] w fun e w' => e = .returned (.tuple #[.agg #[.int .i64 v.fault.at_, .int .i64 v.fault.kind, .int .i64 v.fault.n], .int .i64 v.met.1]) ∧ PV PS G q v.met.2 w' ∧ Kp G w w') := count_c C G q v w h hn
  have HB : Hid (∀ W W', PV PS G q v.met.2 W → Kp G w W → Below W.heap.size W W' → PV PS G q v.met.2 W' ∧ Kp G w W') := fun W W' h1 h2 h3 => ⟨h1.below C h3, h2.kept h3⟩
  clear h hn
  go_enter Try.func93, Try.ntmps93
  go_wp2_with (go_at_call 94; refine HC.out.mono ?_; rintro e w1 ⟨rfl, hv1, hk1⟩)
  go_ret
  exact ⟨rfl, HB.out _ _ hv1 hk1 (by go_grown)⟩
theorem PVo.box (C : PC PS) {G Fd : Nat → Prop} {q p : Nat} {m : Option Nat} {v : Vs} {w : World} (O : PVo PS G q v w p m Fd) (X : Obj) : PVo PS G q v (w.alloc X) p m Fd ∧ Kp G w (w.alloc X) ∧ ¬ G w.heap.size := by
  have hb : Below w.heap.size w (w.alloc X) := (Below.refl _ w).alloc (Nat.le_refl _) X
  exact ⟨O.same C hb.size fun k _ hk => hb.block k hk, Kp.of_below hb, fun h => by have := O.low _ h; omega⟩
/-- The box of the volume that a method makes of its receiver. -/
def volB (p : Nat) : Obj := .cells #[.pointer (some ⟨p, 0, none⟩)] 69 (0, 0)
/-- Behind a box and a question: all is as before, and the box. -/
theorem PVo.asked (C : PC PS) {G Fd : Nat → Prop} {q p : Nat} {m : Option Nat} {v : Vs} {w w' : World} (O : PVo PS G q v w p m Fd) (h : PS Fd p v.st w' ∧ Kp Fd (w.alloc (volB p)) w') : PVo PS G q v w' p m Fd ∧ Kp G w w' ∧ w'.cell? ⟨w.heap.size, 0, none⟩ = some (.pointer (some ⟨p, 0, none⟩)) := by
  obtain ⟨OB, kB, nB⟩ := O.box C (volB p)
  obtain ⟨O1, k1⟩ := OB.ask h
  refine ⟨O1, kB.trans k1, ?_⟩
  have : w'.heap[w.heap.size]? = some (volB p) := by rw [k1.block w.heap.size (by simp) nB, heap_alloc_new]
  rw [Lib.cell_of_heap this]; rfl
/-- Behind a box and a change. -/
theorem PVo.changed (C : PC PS) {G Fd : Nat → Prop} {q p : Nat} {m : Option Nat} {v : Vs} {w w' : World} {st : St} (O : PVo PS G q v w p m Fd) (h : PDid PS Fd p st (w.alloc (volB p)) w') : VDid PS G q (v.on st) w w' ∧ w'.cell? ⟨w.heap.size, 0, none⟩ = some (.pointer (some ⟨p, 0, none⟩)) := by
  obtain ⟨OB, kB, nB⟩ := O.box C (volB p)
  obtain ⟨O1, k1⟩ := OB.did h
  refine ⟨(VDid.of ⟨p, m, Fd, OB⟩ kB).then (v' := v.on st) ?_, ?_⟩
  · refine ⟨⟨p, m, _, O1.mono (fun k hk => ?_) (fun k hk => ?_)⟩, k1.mono' ?_⟩
    · rcases hk with hk | hk
      · exact .inl (.inl hk)
      · exact .inr hk
    · rcases hk with (hk | hk) | hk
      · have := OB.low k hk; have := k1.size; omega
      · have := k1.size; omega
      · exact hk.2
    · exact fun k hk => .inl hk
  · have : w'.heap[w.heap.size]? = some (volB p) := by rw [k1.block w.heap.size (by simp) nB, heap_alloc_new]
    rw [Lib.cell_of_heap this]; rfl
theorem PVo.changed0 (C : PC PS) {G Fd : Nat → Prop} {q p : Nat} {m : Option Nat} {v : Vs} {w w' : World} {st : St} (O : PVo PS G q v w p m Fd) (h : PDid PS Fd p st w w') : VDid PS G q (v.on st) w w' :=
  ⟨⟨p, m, _, (O.did h).1⟩, (O.did h).2⟩
/-- What the disk answers to a reading of a file. -/
def St.readN (st : St) (name : ByteArray) : ByteArray × Nat := if (st.find name).2.2 ≠ 0 then (⟨#[]⟩, (st.find name).2.2) else st.read (st.find name).2.1
end Go.Proofs.Ytbbblncoicjacaa
