
-- The disk as a device.
import Derived.Test.YtloljimabapicaaU3
namespace Go.Proofs.Ytloljimabapicaa
open Go.RowKit
set_option linter.unusedVariables false
variable {PS : (Nat → Prop) → Nat → St → World → Prop}
theorem setRow_other (w : World) (g : Nat) (cs : Array Value) {k : Nat} (hk : k ≠ g) : (w.setRow g cs).heap[k]? = w.heap[k]? := by
  simp only [World.setRow]
  rw [Array.getElem?_modify]
  simp [Ne.symm hk]
theorem PVo.row (C : PC PS) {G Fd : Nat → Prop} {q p : Nat} {m : Option Nat} {v : Vs} {w0 w : World} (O : PVo PS G q v w p m Fd) (hk : Kp G w0 w) {r : Nat} (hr : ¬ G r) (hr0 : w0.heap.size ≤ r) (cs : Array Value) : PVo PS G q v (w.setRow r cs) p m Fd ∧ Kp G w0 (w.setRow r cs) :=
  ⟨O.same C (by simp) fun k h1 _ => setRow_other _ _ _ (fun e => hr (e ▸ h1)), hk.os, hk.tape, hk.output, by simpa using hk.size, fun k h1 h2 => (setRow_other _ _ _ (by omega)).trans (hk.block k h1 h2)⟩
set_option maxHeartbeats 4000000 in
theorem vList_c (C : PC PS) (G Fd : Nat → Prop) (q p : Nat) (m : Option Nat) (v : Vs) (w : World) (O : PVo PS G q v w p m Fd) (hw : Wf v.st) :
    Calls Try.prog 35 #[.agg #[.pointer (some ⟨p, 0, none⟩)]] w fun e w' => (∃ x, e = .returned (.tuple #[x, .int .i64 0]) ∧ w'.ownsRow w.heap.size 9 1 x v.st.names.length (strV v.st.names)) ∧ PVo PS G q v w' p m Fd ∧ Kp G w w' := by
  have HF : Hid (Calls Try.prog 37 #[.pointer (some ⟨p, 0, none⟩)] (w.alloc (.cells #[.pointer (some ⟨p, 0, none⟩)] 37)) fun e w' => ∃ x, e = .returned x ∧ w'.ownsRow w.heap.size 9 1 x v.st.names.length (strV v.st.names) ∧ PVo PS G q v w' p m Fd ∧ Kp G w w') := by
    refine (C.names Fd p v.st _ (O.box C (volB p)).1.disk hw).mono ?_
    rintro e w' ⟨⟨x, rfl, hx⟩, h1, h2⟩
    obtain ⟨O1, k1, _⟩ := O.asked C ⟨h1, h2⟩
    exact ⟨x, rfl, own_mono hx (by simp), O1, k1⟩
  clear O hw
  go_enter Try.func35, Try.ntmps35
  go_wp2_with (go_at_call 37; refine HF.out.mono ?_; rintro e w2 ⟨x, rfl, hx, O2, k2⟩)
  go_returns
  exact ⟨⟨x, rfl, hx⟩, O2, k2⟩
end Go.Proofs.Ytloljimabapicaa
