
-- The disk as a device.
import Derived.Test.YtbbblncoicjacaaU3
namespace Go.Proofs.Ytbbblncoicjacaa
open Go.RowKit
set_option linter.unusedVariables false
variable {PS : (Nat → Prop) → Nat → St → World → Prop}
theorem setRow_other (w : World) (g : Nat) (cs : Array Value) {k : Nat} (hk : k ≠ g) : (w.setRow g cs).heap[k]? = w.heap[k]? := by
  simp only [World.setRow]
  rw [Array.getElem?_modify]
  simp [Ne.symm hk]
theorem PVo.row (C : PC PS) {G Fd : Nat → Prop} {q p : Nat} {m : Option Nat} {v : Vs} {w0 w : World} (O : PVo PS G q v w p m Fd) (hk : Kp G w0 w) {r : Nat} (hr : ¬ G r) (hr0 : w0.heap.size ≤ r) (cs : Array Value) : PVo PS G q v (w.setRow r cs) p m Fd ∧ Kp G w0 (w.setRow r cs) :=
  ⟨O.same C (by simp) fun k h1 _ => setRow_other _ _ _ (fun e => hr (e ▸ h1)), hk.os, hk.tape, hk.output, by simpa using hk.size, fun k h1 h2 => (setRow_other _ _ _ (by omega)).trans (hk.block k h1 h2)⟩
theorem sizeInf4 : (Try.prog.info? 142).map (·.size) = some 6 := by kernel_rfl
set_option maxHeartbeats 4000000 in
theorem vSyncDir_c (C : PC PS) (G Fd : Nat → Prop) (q p : Nat) (m : Option Nat) (v : Vs) (w : World) (O : PVo PS G q v w p m Fd) (hw : Wf v.st) :
    Calls Try.prog 76 #[.agg #[.pointer (some ⟨p, 0, none⟩)]] w fun e w' => e = .returned (.int .i64 0) ∧ VDid PS G q (v.on v.st.syncDir) w w' := by
  have HF : Hid (Calls Try.prog 65 #[.pointer (some ⟨p, 0, none⟩)] (w.alloc (.cells #[.pointer (some ⟨p, 0, none⟩)] 69)) fun e w' => e = .returned (.tuple #[]) ∧ VDid PS G q (v.on v.st.syncDir) w w') := by
    refine (C.syncDir Fd p v.st _ (O.box C (volB p)).1.disk hw).mono ?_
    rintro e w' ⟨rfl, h1⟩
    exact ⟨rfl, (O.changed C h1).1⟩
  clear O hw
  go_enter Try.func76, Try.ntmps76
  go_wp2_with (go_at_call 65; refine HF.out.mono ?_; rintro e w2 ⟨rfl, hd⟩)
  go_returns
  exact ⟨rfl, hd⟩
/-- What the disk answers to a Write. -/
def St.wrote (st : St) (n : Int) (data : ByteArray) : Nat × Nat := if (st.append n data).1 ≠ 0 then (0, (st.append n data).1) else (data.size, 0)
set_option maxHeartbeats 4000000 in
theorem vWrite_c (C : PC PS) (G Fd : Nat → Prop) (q p : Nat) (m : Option Nat) (v : Vs) (n : Int) (data : ByteArray) (w : World) (O : PVo PS G q v w p m Fd) (hw : Wf v.st) (hd : data.size ≤ 140737488355328) :
    Calls Try.prog 77 #[.agg #[.pointer (some ⟨p, 0, none⟩)], .int .i64 n, .string data] w fun e w' => e = .returned (.tuple #[.int .i64 (v.st.wrote n data).1, .int .i64 (v.st.wrote n data).2]) ∧ VDid PS G q (v.on (v.st.append n data).2) w w' := by
  have HF : Hid (Calls Try.prog 79 #[.pointer (some ⟨p, 0, none⟩), .int .i64 n, .string data] (w.alloc (.cells #[.pointer (some ⟨p, 0, none⟩)] 69)) fun e w' => e = .returned (.int .i64 (v.st.append n data).1) ∧ VDid PS G q (v.on (v.st.append n data).2) w w') := by
    refine (C.append Fd p v.st n data _ (O.box C (volB p)).1.disk hw hd).mono ?_
    rintro e w' ⟨rfl, h1⟩
    exact ⟨rfl, (O.changed C h1).1⟩
  clear O hw
  by_cases hf : (v.st.append n data).1 = 0
  · have HE : Hid (v.st.wrote n data = (data.size, 0)) := by show _ = _; unfold St.wrote; rw [if_neg (by simp [hf])]
    rw [hf] at HF
    clear hf
    go_enter Try.func77, Try.ntmps77
    go_wp2_with (go_at_call 79; refine HF.out.mono ?_; rintro e w2 ⟨rfl, hr⟩)
    go_returns
    rw [HE.out]
    exact ⟨rfl, hr⟩
  · have HE : Hid (v.st.wrote n data = (0, (v.st.append n data).1)) := by show _ = _; unfold St.wrote; rw [if_pos hf]
    have b1 : (((v.st.append n data).1 : Int) == 0) = false := by simp; omega
    obtain ⟨E, hE⟩ : ∃ E, E = (v.st.append n data).1 := ⟨_, rfl⟩
    rw [← hE] at HF HE b1
    clear hf hE
    have b2 : ((E : Int) != 0) = true := by simp [bne, b1]
    go_enter Try.func77, Try.ntmps77
    go_wp2_with (go_at_call 79; refine HF.out.mono ?_; rintro e w2 ⟨rfl, hr⟩)
    go_returns
    rw [HE.out]
    exact ⟨rfl, hr⟩
end Go.Proofs.Ytbbblncoicjacaa
