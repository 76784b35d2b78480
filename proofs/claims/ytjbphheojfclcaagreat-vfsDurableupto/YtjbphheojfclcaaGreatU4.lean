
-- The disk as a device.
import Derived.Test.YtjbphheojfclcaaGreatU3
namespace Go.Proofs.YtjbphheojfclcaaGreat
open Go.RowKit
set_option linter.unusedVariables false
variable {PS : (Nat → Prop) → Nat → St → World → Prop}
theorem setRow_other (w : World) (g : Nat) (cs : Array Value) {k : Nat} (hk : k ≠ g) : (w.setRow g cs).heap[k]? = w.heap[k]? := by
  simp only [World.setRow]
  rw [Array.getElem?_modify]
  simp [Ne.symm hk]
theorem PVo.row (C : PC PS) {G Fd : Nat → Prop} {q p : Nat} {m : Option Nat} {v : Vs} {w0 w : World} (O : PVo PS G q v w p m Fd) (hk : Kp G w0 w) {r : Nat} (hr : ¬ G r) (hr0 : w0.heap.size ≤ r) (cs : Array Value) : PVo PS G q v (w.setRow r cs) p m Fd ∧ Kp G w0 (w.setRow r cs) :=
  ⟨O.same C (by simp) fun k h1 _ => setRow_other _ _ _ (fun e => hr (e ▸ h1)), hk.os, hk.tape, hk.output, by simpa using hk.size, fun k h1 h2 => (setRow_other _ _ _ (by omega)).trans (hk.block k h1 h2)⟩
theorem sizeInf4 : (Tryz.prog.info? 29).map (·.size) = some 6 := by kernel_rfl
set_option maxHeartbeats 4000000 in
theorem vStat_c (C : PC PS) (G Fd : Nat → Prop) (q p : Nat) (m : Option Nat) (v : Vs) (name : ByteArray) (w : World) (O : PVo PS G q v w p m Fd) (hw : Wf v.st) :
    Calls Tryz.prog 128 #[.agg #[.pointer (some ⟨p, 0, none⟩)], .string name] w fun e w' => e = .returned (.tuple #[.agg #[.int .i64 (v.st.find name).1.2.date, .int .i64 (v.st.find name).1.2.uid, .int .i64 (v.st.find name).1.2.gid, .int .i64 (v.st.find name).1.2.mode, .string (v.st.find name).1.1, .int .i64 (v.st.find name).1.2.data.size], .int .i64 (v.st.find name).2.2]) ∧ PVo PS G q v w' p m Fd ∧ Kp G w w' := by
  obtain ⟨X, hX⟩ : ∃ X, X = Obj.cells #[.int .i64 0, .int .i64 0, .int .i64 0, .int .i64 0, .string ⟨#[]⟩, .int .i64 0] 29 := ⟨_, rfl⟩
  obtain ⟨O1, k1, n1⟩ := O.box C (volB p)
  obtain ⟨O2, k2, n2⟩ := O1.box C X
  have hs1 : (w.alloc (volB p)).heap.size = w.heap.size + 1 := by simp
  have hs2 : ((w.alloc (volB p)).alloc X).heap.size = w.heap.size + 2 := by simp
  have HF : Hid (Calls Tryz.prog 48 #[.pointer (some ⟨p, 0, none⟩), .string name] ((w.alloc (.cells #[.pointer (some ⟨p, 0, none⟩)] 119)).alloc X) fun e w' => e = .returned (.tuple #[.agg #[.int .i64 (v.st.find name).1.2.date, .int .i64 (v.st.find name).1.2.uid, .int .i64 (v.st.find name).1.2.gid, .int .i64 (v.st.find name).1.2.mode, .string (v.st.find name).1.1, .int .i64 (v.st.find name).1.2.data.size], .int .i64 (v.st.find name).2.1, .int .i64 (v.st.find name).2.2]) ∧ PVo PS G q v w' p m Fd ∧ Kp G w w' ∧ w'.heap[w.heap.size + 1]? = some (.cells #[.int .i64 0, .int .i64 0, .int .i64 0, .int .i64 0, .string ⟨#[]⟩, .int .i64 0] 29 (0, 0)) ∧ w.heap.size + 1 < w'.heap.size) := by
    refine (C.find Fd p v.st name _ O2.disk hw).mono ?_
    rintro e w' ⟨rfl, h1, h2⟩
    obtain ⟨O3, k3⟩ := O2.ask ⟨h1, h2⟩
    refine ⟨rfl, O3, k1.trans (k2.trans k3), ?_, by have := k3.size; rw [hs2] at this; omega⟩
    rw [k3.block _ (by rw [hs2]; omega) (by rw [← hs1]; exact n2), ← hs1, heap_alloc_new, hX]
  have HN : Hid (¬ G (w.heap.size + 1)) := by rw [← hs1]; exact n2
  have HAL : Hid (∀ w2 W, PVo PS G q v w2 p m Fd → Kp G w w2 → Below w2.heap.size w2 W → PVo PS G q v W p m Fd ∧ Kp G w W) := fun w2 W O hk hb => ⟨O.same C hb.size fun k _ hk => hb.block k hk, hk.kept hb⟩
  clear O O1 O2 k1 k2 n1 n2 hs1 hs2 hw
  subst hX
  obtain ⟨F1, hF1⟩ : ∃ x, x = (v.st.find name).1.2.date := ⟨_, rfl⟩
  obtain ⟨F2, hF2⟩ : ∃ x, x = (v.st.find name).1.2.uid := ⟨_, rfl⟩
  obtain ⟨F3, hF3⟩ : ∃ x, x = (v.st.find name).1.2.gid := ⟨_, rfl⟩
  obtain ⟨F4, hF4⟩ : ∃ x, x = (v.st.find name).1.2.mode := ⟨_, rfl⟩
  obtain ⟨F5, hF5⟩ : ∃ x, x = (v.st.find name).1.1 := ⟨_, rfl⟩
  obtain ⟨F6, hF6⟩ : ∃ x, x = (v.st.find name).1.2.data.size := ⟨_, rfl⟩
  obtain ⟨F7, hF7⟩ : ∃ x, x = (v.st.find name).2.1 := ⟨_, rfl⟩
  obtain ⟨F8, hF8⟩ : ∃ x, x = (v.st.find name).2.2 := ⟨_, rfl⟩
  rw [← hF1, ← hF2, ← hF3, ← hF4, ← hF5, ← hF6, ← hF7, ← hF8] at HF
  rw [← hF1, ← hF2, ← hF3, ← hF4, ← hF5, ← hF6, ← hF8]
  clear hF1 hF2 hF3 hF4 hF5 hF6 hF7 hF8
  go_enter Tryz.func128, Tryz.ntmps128
  go_wp2_with fail
  go_at_call 48
  refine HF.out.mono ?_
  rintro e w2 ⟨rfl, O3, hk3, hx3, hs3⟩
  obtain ⟨r, hr⟩ : ∃ r, r = w.heap.size + 1 := ⟨_, rfl⟩
  have HR : Hid (r = w.heap.size + 1) := hr
  rw [← hr] at hx3 hs3 HN ⊢
  clear hr
  have HX3 : Hid (w2.heap[r]? = some (.cells #[.int .i64 0, .int .i64 0, .int .i64 0, .int .i64 0, .string ⟨#[]⟩, .int .i64 0] 29 (0, 0)) ∧ PVo PS G q v w2 p m Fd ∧ Kp G w w2) := ⟨hx3, O3, hk3⟩
  have HG : Hid (∀ X, (w2.alloc X).heap[r]? = some (.cells #[.int .i64 0, .int .i64 0, .int .i64 0, .int .i64 0, .string ⟨#[]⟩, .int .i64 0] 29 (0, 0))) := fun X => (((Below.refl _ w2).alloc (Nat.le_refl _) X).block r hs3).trans hx3
  clear hx3 O3 hk3
  go_wp2_with (refine wpList_store_row rfl 29 _ _ rfl r #[.int .i64 F1, .int .i64 F2, .int .i64 F3, .int .i64 F4, .string F5, .int .i64 F6] rfl rfl _ _ (HG.out _) sizeInf4 rfl (all6 _ _ _ _ _ _) ?_)
  refine bodyPost_ret (results_cell_tmp1 rfl _ _ r _ _ _ _ rfl (setRow_heap _ _ _ _ _ _ (HG.out _)) Tryz.underlying29 rfl sizeInf4) rfl ?_
  obtain ⟨O4, k4⟩ := HAL.out w2 _ HX3.out.2.1 HX3.out.2.2 ((Below.refl _ w2).alloc (Nat.le_refl _) (.cells #[.int .i64 F1, .int .i64 F2, .int .i64 F3, .int .i64 F4, .string F5, .int .i64 F6] 29))
  exact ⟨rfl, O4.row C k4 HN.out (by have := HR.out; omega) _⟩
set_option maxHeartbeats 4000000 in
theorem vList_c (C : PC PS) (G Fd : Nat → Prop) (q p : Nat) (m : Option Nat) (v : Vs) (w : World) (O : PVo PS G q v w p m Fd) (hw : Wf v.st) :
    Calls Tryz.prog 126 #[.agg #[.pointer (some ⟨p, 0, none⟩)]] w fun e w' => (∃ x, e = .returned (.tuple #[x, .int .i64 0]) ∧ w'.ownsRow w.heap.size 9 1 x v.st.names.length (strV v.st.names)) ∧ PVo PS G q v w' p m Fd ∧ Kp G w w' := by
  have HF : Hid (Calls Tryz.prog 45 #[.pointer (some ⟨p, 0, none⟩)] (w.alloc (.cells #[.pointer (some ⟨p, 0, none⟩)] 119)) fun e w' => ∃ x, e = .returned x ∧ w'.ownsRow w.heap.size 9 1 x v.st.names.length (strV v.st.names) ∧ PVo PS G q v w' p m Fd ∧ Kp G w w') := by
    refine (C.names Fd p v.st _ (O.box C (volB p)).1.disk hw).mono ?_
    rintro e w' ⟨⟨x, rfl, hx⟩, h1, h2⟩
    obtain ⟨O1, k1, _⟩ := O.asked C ⟨h1, h2⟩
    exact ⟨x, rfl, own_mono hx (by simp), O1, k1⟩
  clear O hw
  go_enter Tryz.func126, Tryz.ntmps126
  go_wp2_with (go_at_call 45; refine HF.out.mono ?_; rintro e w2 ⟨x, rfl, hx, O2, k2⟩)
  go_returns
  exact ⟨⟨x, rfl, hx⟩, O2, k2⟩
set_option maxHeartbeats 4000000 in
theorem vSyncDir_c (C : PC PS) (G Fd : Nat → Prop) (q p : Nat) (m : Option Nat) (v : Vs) (w : World) (O : PVo PS G q v w p m Fd) (hw : Wf v.st) :
    Calls Tryz.prog 129 #[.agg #[.pointer (some ⟨p, 0, none⟩)]] w fun e w' => e = .returned (.int .i64 0) ∧ VDid PS G q (v.on v.st.syncDir) w w' := by
  have HF : Hid (Calls Tryz.prog 53 #[.pointer (some ⟨p, 0, none⟩)] (w.alloc (.cells #[.pointer (some ⟨p, 0, none⟩)] 119)) fun e w' => e = .returned (.tuple #[]) ∧ VDid PS G q (v.on v.st.syncDir) w w') := by
    refine (C.syncDir Fd p v.st _ (O.box C (volB p)).1.disk hw).mono ?_
    rintro e w' ⟨rfl, h1⟩
    exact ⟨rfl, (O.changed C h1).1⟩
  clear O hw
  go_enter Tryz.func129, Tryz.ntmps129
  go_wp2_with (go_at_call 53; refine HF.out.mono ?_; rintro e w2 ⟨rfl, hd⟩)
  go_returns
  exact ⟨rfl, hd⟩
/-- What the disk answers to a Write. -/
def St.wrote (st : St) (n : Int) (data : ByteArray) : Nat × Nat := if (st.append n data).1 ≠ 0 then (0, (st.append n data).1) else (data.size, 0)
set_option maxHeartbeats 4000000 in
theorem vWrite_c (C : PC PS) (G Fd : Nat → Prop) (q p : Nat) (m : Option Nat) (v : Vs) (n : Int) (data : ByteArray) (w : World) (O : PVo PS G q v w p m Fd) (hw : Wf v.st) (hd : data.size ≤ 140737488355328) :
    Calls Tryz.prog 130 #[.agg #[.pointer (some ⟨p, 0, none⟩)], .int .i64 n, .string data] w fun e w' => e = .returned (.tuple #[.int .i64 (v.st.wrote n data).1, .int .i64 (v.st.wrote n data).2]) ∧ VDid PS G q (v.on (v.st.append n data).2) w w' := by
  have HF : Hid (Calls Tryz.prog 54 #[.pointer (some ⟨p, 0, none⟩), .int .i64 n, .string data] (w.alloc (.cells #[.pointer (some ⟨p, 0, none⟩)] 119)) fun e w' => e = .returned (.int .i64 (v.st.append n data).1) ∧ VDid PS G q (v.on (v.st.append n data).2) w w') := by
    refine (C.append Fd p v.st n data _ (O.box C (volB p)).1.disk hw hd).mono ?_
    rintro e w' ⟨rfl, h1⟩
    exact ⟨rfl, (O.changed C h1).1⟩
  clear O hw
  by_cases hf : (v.st.append n data).1 = 0
  · have HE : Hid (v.st.wrote n data = (data.size, 0)) := by show _ = _; unfold St.wrote; rw [if_neg (by simp [hf])]
    rw [hf] at HF
    clear hf
    go_enter Tryz.func130, Tryz.ntmps130
    go_wp2_with (go_at_call 54; refine HF.out.mono ?_; rintro e w2 ⟨rfl, hr⟩)
    go_returns
    rw [HE.out]
    exact ⟨rfl, hr⟩
  · have HE : Hid (v.st.wrote n data = (0, (v.st.append n data).1)) := by show _ = _; unfold St.wrote; rw [if_pos hf]
    have b1 : (((v.st.append n data).1 : Int) == 0) = false := by simp; omega
    obtain ⟨E, hE⟩ : ∃ E, E = (v.st.append n data).1 := ⟨_, rfl⟩
    rw [← hE] at HF HE b1
    clear hf hE
    have b2 : ((E : Int) != 0) = true := by simp [bne, b1]
    go_enter Tryz.func130, Tryz.ntmps130
    go_wp2_with (go_at_call 54; refine HF.out.mono ?_; rintro e w2 ⟨rfl, hr⟩)
    go_returns
    rw [HE.out]
    exact ⟨rfl, hr⟩
end Go.Proofs.YtjbphheojfclcaaGreat
