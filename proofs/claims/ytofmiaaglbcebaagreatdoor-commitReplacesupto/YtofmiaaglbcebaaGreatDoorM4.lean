import Derived.Test.YtofmiaaglbcebaaGreatDoorU2
import Derived.Deep.RegionHeld3
import Derived.Deep.DrawnRows
import Derived.Deep.RegionWith

-- The device that fails, around the disk.
namespace Go.Proofs.YtofmiaaglbcebaaGreatDoor
open Go.RowKit
set_option linter.unusedVariables false
variable {PS : (Nat → Prop) → Nat → St → World → Prop}
set_option maxHeartbeats 4000000 in
theorem refusal_c (C : PC PS) (G : Nat → Prop) (q : Nat) (v : Vs) (w : World) (h : PV PS G q v w) (hn : v.cnt ≤ 4194304) :
    Calls Tryz.prog 190 #[.pointer (some ⟨q, 0, none⟩)] w fun e w' => e = .returned (.int .i64 v.met.1) ∧ PV PS G q v.met.2 w' ∧ Kp G w w' := by
  have HC : Hid (Calls Tryz.prog 191 #[.pointer (some ⟨q, 0, none⟩)] w fun e w' => e = .returned (.tuple #[.agg #[.int .i64 v.fault.at_, .int .i64 v.fault.kind, .int .i64 v.fault.n], .int .i64 v.met.1]) ∧ PV PS G q v.met.2 w' ∧ Kp G w w') := count_c C G q v w h hn
  have HB : Hid (∀ W W', PV PS G q v.met.2 W → Kp G w W → Below W.heap.size W W' → PV PS G q v.met.2 W' ∧ Kp G w W') := fun W W' h1 h2 h3 => ⟨h1.below C h3, h2.kept h3⟩
  clear h hn
  go_enter Tryz.func190, Tryz.ntmps190
  go_wp2_with (go_at_call 191; refine HC.out.mono ?_; rintro e w1 ⟨rfl, hv1, hk1⟩)
  go_ret
  exact ⟨rfl, HB.out _ _ hv1 hk1 (by go_grown)⟩
theorem PVo.box (C : PC PS) {G Fd : Nat → Prop} {q p : Nat} {m : Option Nat} {v : Vs} {w : World} (O : PVo PS G q v w p m Fd) (X : Obj) : PVo PS G q v (w.alloc X) p m Fd ∧ Kp G w (w.alloc X) ∧ ¬ G w.heap.size := by
  have hb : Below w.heap.size w (w.alloc X) := (Below.refl _ w).alloc (Nat.le_refl _) X
  exact ⟨O.same C hb.size fun k _ hk => hb.block k hk, Kp.of_below hb, fun h => by have := O.low _ h; omega⟩
/-- The box of the volume that a method makes of its receiver. -/
def volB (p : Nat) : Obj := .cells #[.pointer (some ⟨p, 0, none⟩)] 43 (0, 0)
/-- Behind a box and a question: all is as before, and the box. -/
theorem PVo.asked (C : PC PS) {G Fd : Nat → Prop} {q p : Nat} {m : Option Nat} {v : Vs} {w w' : World} (O : PVo PS G q v w p m Fd) (h : PS Fd p v.st w' ∧ Kp Fd (w.alloc (volB p)) w') : PVo PS G q v w' p m Fd ∧ Kp G w w' ∧ w'.cell? ⟨w.heap.size, 0, none⟩ = some (.pointer (some ⟨p, 0, none⟩)) := by
  obtain ⟨OB, kB, nB⟩ := O.box C (volB p)
  obtain ⟨O1, k1⟩ := OB.ask h
  refine ⟨O1, kB.trans k1, ?_⟩
  have : w'.heap[w.heap.size]? = some (volB p) := by rw [k1.block w.heap.size (by simp) nB, heap_alloc_new]
  rw [Lib.cell_of_heap this]; rfl
/-- Behind a box and a change. -/
theorem PVo.changed (C : PC PS) {G Fd : Nat → Prop} {q p : Nat} {m : Option Nat} {v : Vs} {w w' : World} {st : St} (O : PVo PS G q v w p m Fd) (h : PDid PS Fd p st (w.alloc (volB p)) w') : VDid PS G q (v.on st) w w' ∧ w'.cell? ⟨w.heap.size, 0, none⟩ = some (.pointer (some ⟨p, 0, none⟩)) := by
  obtain ⟨OB, kB, nB⟩ := O.box C (volB p)
  obtain ⟨O1, k1⟩ := OB.did h
  refine ⟨(VDid.of ⟨p, m, Fd, OB⟩ kB).then (v' := v.on st) ?_, ?_⟩
  · refine ⟨⟨p, m, _, O1.mono (fun k hk => ?_) (fun k hk => ?_)⟩, k1.mono' ?_⟩
    · rcases hk with hk | hk
      · exact .inl (.inl hk)
      · exact .inr hk
    · rcases hk with (hk | hk) | hk
      · have := OB.low k hk; have := k1.size; omega
      · have := k1.size; omega
      · exact hk.2
    · exact fun k hk => .inl hk
  · have : w'.heap[w.heap.size]? = some (volB p) := by rw [k1.block w.heap.size (by simp) nB, heap_alloc_new]
    rw [Lib.cell_of_heap this]; rfl
theorem PVo.changed0 (C : PC PS) {G Fd : Nat → Prop} {q p : Nat} {m : Option Nat} {v : Vs} {w w' : World} {st : St} (O : PVo PS G q v w p m Fd) (h : PDid PS Fd p st w w') : VDid PS G q (v.on st) w w' :=
  ⟨⟨p, m, _, (O.did h).1⟩, (O.did h).2⟩
/-- What the disk answers to a reading of a file. -/
def St.readN (st : St) (name : ByteArray) : ByteArray × Nat := if (st.find name).2.2 ≠ 0 then (⟨#[]⟩, (st.find name).2.2) else st.read (st.find name).2.1
set_option maxHeartbeats 4000000 in
theorem vRead_c (C : PC PS) (G Fd : Nat → Prop) (q p : Nat) (m : Option Nat) (v : Vs) (name : ByteArray) (w : World) (O : PVo PS G q v w p m Fd) (hw : Wf v.st) :
    Calls Tryz.prog 168 #[.agg #[.pointer (some ⟨p, 0, none⟩)], .string name] w fun e w' => e = .returned (.tuple #[.string (v.st.readN name).1, .int .i64 (v.st.readN name).2]) ∧ PVo PS G q v w' p m Fd ∧ Kp G w w' := by
  have HF : Hid (Calls Tryz.prog 172 #[.pointer (some ⟨p, 0, none⟩), .string name] (w.alloc (.cells #[.pointer (some ⟨p, 0, none⟩)] 43)) fun e w' => e = .returned (.tuple #[.agg #[.int .i64 (v.st.find name).1.2.date, .int .i64 (v.st.find name).1.2.uid, .int .i64 (v.st.find name).1.2.gid, .int .i64 (v.st.find name).1.2.mode, .string (v.st.find name).1.1, .int .i64 (v.st.find name).1.2.data.size], .int .i64 (v.st.find name).2.1, .int .i64 (v.st.find name).2.2]) ∧ PVo PS G q v w' p m Fd ∧ Kp G w w' ∧ w'.cell? ⟨w.heap.size, 0, none⟩ = some (.pointer (some ⟨p, 0, none⟩))) := by
    refine (C.find Fd p v.st name _ (O.box C (volB p)).1.disk hw).mono ?_
    rintro e w' ⟨rfl, h1, h2⟩
    exact ⟨rfl, O.asked C ⟨h1, h2⟩⟩
  have HR : Hid (∀ w1, PVo PS G q v w1 p m Fd → Calls Tryz.prog 173 #[.pointer (some ⟨p, 0, none⟩), .int .i64 (v.st.find name).2.1] w1 fun e w' => e = .returned (.tuple #[.string (v.st.read (v.st.find name).2.1).1, .int .i64 (v.st.read (v.st.find name).2.1).2]) ∧ PVo PS G q v w' p m Fd ∧ Kp G w1 w') := fun w1 O => by
    refine (C.read Fd p v.st _ _ O.disk hw).mono ?_
    rintro e w' ⟨rfl, h1, h2⟩
    exact ⟨rfl, O.ask ⟨h1, h2⟩⟩
  have HAL : Hid (∀ w1 w2 W, PVo PS G q v w2 p m Fd → Kp G w w2 → Below w2.heap.size w2 W → w2.cell? ⟨w1, 0, none⟩ = some (.pointer (some ⟨p, 0, none⟩)) → PVo PS G q v W p m Fd ∧ Kp G w W ∧ W.cell? ⟨w1, 0, none⟩ = some (.pointer (some ⟨p, 0, none⟩))) := fun w1 w2 W O hk hb hc => ⟨O.same C hb.size fun k _ hk => hb.block k hk, hk.kept hb, cell_below hb hc⟩
  clear O hw
  by_cases hf : (v.st.find name).2.2 = 0
  · have HE : Hid (v.st.readN name = v.st.read (v.st.find name).2.1) := by show _ = _; unfold St.readN; rw [if_neg (by simp [hf])]
    rw [hf] at HF
    clear hf
    go_enter Tryz.func168, Tryz.ntmps168
    go_wp2_with (first
      | (go_at_call 172; refine HF.out.mono ?_; rintro e w2 ⟨rfl, O2, hk2, c2⟩; have hs2 : w.heap.size < w2.heap.size := World.block_lt_of_cell? w2 _ c2)
      | (go_at_call 173; refine (HR.out _ (HAL.out _ w2 _ O2 hk2 (by go_grown) c2).1).mono ?_; rintro e w3 ⟨rfl, O3, hk3⟩; have hk4 := (HAL.out _ w2 _ O2 hk2 (by go_grown) c2).2.1))
    go_returns
    rw [HE.out]
    exact ⟨rfl, O3, (HAL.out _ w2 _ O2 hk2 (by go_grown) c2).2.1.trans hk3⟩
  · have HE : Hid (v.st.readN name = (⟨#[]⟩, (v.st.find name).2.2)) := by show _ = _; unfold St.readN; rw [if_pos hf]
    have b1 : (((v.st.find name).2.2 : Int) == 0) = false := by simp; omega
    obtain ⟨E, hE⟩ : ∃ E, E = (v.st.find name).2.2 := ⟨_, rfl⟩
    rw [← hE] at HF HE b1
    clear hf hE
    have b2 : ((E : Int) != 0) = true := by simp [bne, b1]
    go_enter Tryz.func168, Tryz.ntmps168
    go_wp2_with (go_at_call 172; refine HF.out.mono ?_; rintro e w2 ⟨rfl, O2, hk2, c2⟩; have hs2 : w.heap.size < w2.heap.size := World.block_lt_of_cell? w2 _ c2)
    go_returns
    rw [HE.out]
    exact ⟨rfl, (HAL.out _ w2 _ O2 hk2 (by go_grown) c2).1, (HAL.out _ w2 _ O2 hk2 (by go_grown) c2).2.1⟩
end Go.Proofs.YtofmiaaglbcebaaGreatDoor

-- The disk as a device.
namespace Go.Proofs.YtofmiaaglbcebaaGreatDoor
open Go.RowKit
set_option linter.unusedVariables false
variable {PS : (Nat → Prop) → Nat → St → World → Prop}
theorem setRow_other (w : World) (g : Nat) (cs : Array Value) {k : Nat} (hk : k ≠ g) : (w.setRow g cs).heap[k]? = w.heap[k]? := by
  simp only [World.setRow]
  rw [Array.getElem?_modify]
  simp [Ne.symm hk]
theorem PVo.row (C : PC PS) {G Fd : Nat → Prop} {q p : Nat} {m : Option Nat} {v : Vs} {w0 w : World} (O : PVo PS G q v w p m Fd) (hk : Kp G w0 w) {r : Nat} (hr : ¬ G r) (hr0 : w0.heap.size ≤ r) (cs : Array Value) : PVo PS G q v (w.setRow r cs) p m Fd ∧ Kp G w0 (w.setRow r cs) :=
  ⟨O.same C (by simp) fun k h1 _ => setRow_other _ _ _ (fun e => hr (e ▸ h1)), hk.os, hk.tape, hk.output, by simpa using hk.size, fun k h1 h2 => (setRow_other _ _ _ (by omega)).trans (hk.block k h1 h2)⟩
theorem sizeInf4 : (Tryz.prog.info? 72).map (·.size) = some 6 := by kernel_rfl
set_option maxHeartbeats 4000000 in
theorem vStat_c (C : PC PS) (G Fd : Nat → Prop) (q p : Nat) (m : Option Nat) (v : Vs) (name : ByteArray) (w : World) (O : PVo PS G q v w p m Fd) (hw : Wf v.st) :
    Calls Tryz.prog 169 #[.agg #[.pointer (some ⟨p, 0, none⟩)], .string name] w fun e w' => e = .returned (.tuple #[.agg #[.int .i64 (v.st.find name).1.2.date, .int .i64 (v.st.find name).1.2.uid, .int .i64 (v.st.find name).1.2.gid, .int .i64 (v.st.find name).1.2.mode, .string (v.st.find name).1.1, .int .i64 (v.st.find name).1.2.data.size], .int .i64 (v.st.find name).2.2]) ∧ PVo PS G q v w' p m Fd ∧ Kp G w w' := by
  obtain ⟨X, hX⟩ : ∃ X, X = Obj.cells #[.int .i64 0, .int .i64 0, .int .i64 0, .int .i64 0, .string ⟨#[]⟩, .int .i64 0] 72 := ⟨_, rfl⟩
  obtain ⟨O1, k1, n1⟩ := O.box C (volB p)
  obtain ⟨O2, k2, n2⟩ := O1.box C X
  have hs1 : (w.alloc (volB p)).heap.size = w.heap.size + 1 := by simp
  have hs2 : ((w.alloc (volB p)).alloc X).heap.size = w.heap.size + 2 := by simp
  have HF : Hid (Calls Tryz.prog 172 #[.pointer (some ⟨p, 0, none⟩), .string name] ((w.alloc (.cells #[.pointer (some ⟨p, 0, none⟩)] 43)).alloc X) fun e w' => e = .returned (.tuple #[.agg #[.int .i64 (v.st.find name).1.2.date, .int .i64 (v.st.find name).1.2.uid, .int .i64 (v.st.find name).1.2.gid, .int .i64 (v.st.find name).1.2.mode, .string (v.st.find name).1.1, .int .i64 (v.st.find name).1.2.data.size], .int .i64 (v.st.find name).2.1, .int .i64 (v.st.find name).2.2]) ∧ PVo PS G q v w' p m Fd ∧ Kp G w w' ∧ w'.heap[w.heap.size + 1]? = some (.cells #[.int .i64 0, .int .i64 0, .int .i64 0, .int .i64 0, .string ⟨#[]⟩, .int .i64 0] 72 (0, 0)) ∧ w.heap.size + 1 < w'.heap.size) := by
    refine (C.find Fd p v.st name _ O2.disk hw).mono ?_
    rintro e w' ⟨rfl, h1, h2⟩
    obtain ⟨O3, k3⟩ := O2.ask ⟨h1, h2⟩
    refine ⟨rfl, O3, k1.trans (k2.trans k3), ?_, by have := k3.size; rw [hs2] at this; omega⟩
    rw [k3.block _ (by rw [hs2]; omega) (by rw [← hs1]; exact n2), ← hs1, heap_alloc_new, hX]
  have HN : Hid (¬ G (w.heap.size + 1)) := by rw [← hs1]; exact n2
  have HAL : Hid (∀ w2 W, PVo PS G q v w2 p m Fd → Kp G w w2 → Below w2.heap.size w2 W → PVo PS G q v W p m Fd ∧ Kp G w W) := fun w2 W O hk hb => ⟨O.same C hb.size fun k _ hk => hb.block k hk, hk.kept hb⟩
  clear O O1 O2 k1 k2 n1 n2 hs1 hs2 hw
  subst hX
  obtain ⟨F1, hF1⟩ : ∃ x, x = (v.st.find name).1.2.date := ⟨_, rfl⟩
  obtain ⟨F2, hF2⟩ : ∃ x, x = (v.st.find name).1.2.uid := ⟨_, rfl⟩
  obtain ⟨F3, hF3⟩ : ∃ x, x = (v.st.find name).1.2.gid := ⟨_, rfl⟩
  obtain ⟨F4, hF4⟩ : ∃ x, x = (v.st.find name).1.2.mode := ⟨_, rfl⟩
  obtain ⟨F5, hF5⟩ : ∃ x, x = (v.st.find name).1.1 := ⟨_, rfl⟩
  obtain ⟨F6, hF6⟩ : ∃ x, x = (v.st.find name).1.2.data.size := ⟨_, rfl⟩
  obtain ⟨F7, hF7⟩ : ∃ x, x = (v.st.find name).2.1 := ⟨_, rfl⟩
  obtain ⟨F8, hF8⟩ : ∃ x, x = (v.st.find name).2.2 := ⟨_, rfl⟩
  rw [← hF1, ← hF2, ← hF3, ← hF4, ← hF5, ← hF6, ← hF7, ← hF8] at HF
  rw [← hF1, ← hF2, ← hF3, ← hF4, ← hF5, ← hF6, ← hF8]
  clear hF1 hF2 hF3 hF4 hF5 hF6 hF7 hF8
  go_enter Tryz.func169, Tryz.ntmps169
  go_wp2_with fail
  go_at_call 172
  refine HF.out.mono ?_
  rintro e w2 ⟨rfl, O3, hk3, hx3, hs3⟩
  obtain ⟨r, hr⟩ : ∃ r, r = w.heap.size + 1 := ⟨_, rfl⟩
  have HR : Hid (r = w.heap.size + 1) := hr
  rw [← hr] at hx3 hs3 HN ⊢
  clear hr
  have HX3 : Hid (w2.heap[r]? = some (.cells #[.int .i64 0, .int .i64 0, .int .i64 0, .int .i64 0, .string ⟨#[]⟩, .int .i64 0] 72 (0, 0)) ∧ PVo PS G q v w2 p m Fd ∧ Kp G w w2) := ⟨hx3, O3, hk3⟩
  have HG : Hid (∀ X, (w2.alloc X).heap[r]? = some (.cells #[.int .i64 0, .int .i64 0, .int .i64 0, .int .i64 0, .string ⟨#[]⟩, .int .i64 0] 72 (0, 0))) := fun X => (((Below.refl _ w2).alloc (Nat.le_refl _) X).block r hs3).trans hx3
  clear hx3 O3 hk3
  go_wp2_with (refine wpList_store_row rfl 72 _ _ rfl r #[.int .i64 F1, .int .i64 F2, .int .i64 F3, .int .i64 F4, .string F5, .int .i64 F6] rfl rfl _ _ (HG.out _) sizeInf4 rfl (all6 _ _ _ _ _ _) ?_)
  refine bodyPost_ret (results_cell_tmp1 rfl _ _ r _ _ _ _ rfl (setRow_heap _ _ _ _ _ _ (HG.out _)) Tryz.underlying72 rfl sizeInf4) rfl ?_
  obtain ⟨O4, k4⟩ := HAL.out w2 _ HX3.out.2.1 HX3.out.2.2 ((Below.refl _ w2).alloc (Nat.le_refl _) (.cells #[.int .i64 F1, .int .i64 F2, .int .i64 F3, .int .i64 F4, .string F5, .int .i64 F6] 72))
  exact ⟨rfl, O4.row C k4 HN.out (by have := HR.out; omega) _⟩
set_option maxHeartbeats 4000000 in
theorem vList_c (C : PC PS) (G Fd : Nat → Prop) (q p : Nat) (m : Option Nat) (v : Vs) (w : World) (O : PVo PS G q v w p m Fd) (hw : Wf v.st) :
    Calls Tryz.prog 167 #[.agg #[.pointer (some ⟨p, 0, none⟩)]] w fun e w' => (∃ x, e = .returned (.tuple #[x, .int .i64 0]) ∧ w'.ownsRow w.heap.size 9 1 x v.st.names.length (strV v.st.names)) ∧ PVo PS G q v w' p m Fd ∧ Kp G w w' := by
  have HF : Hid (Calls Tryz.prog 129 #[.pointer (some ⟨p, 0, none⟩)] (w.alloc (.cells #[.pointer (some ⟨p, 0, none⟩)] 43)) fun e w' => ∃ x, e = .returned x ∧ w'.ownsRow w.heap.size 9 1 x v.st.names.length (strV v.st.names) ∧ PVo PS G q v w' p m Fd ∧ Kp G w w') := by
    refine (C.names Fd p v.st _ (O.box C (volB p)).1.disk hw).mono ?_
    rintro e w' ⟨⟨x, rfl, hx⟩, h1, h2⟩
    obtain ⟨O1, k1, _⟩ := O.asked C ⟨h1, h2⟩
    exact ⟨x, rfl, own_mono hx (by simp), O1, k1⟩
  clear O hw
  go_enter Tryz.func167, Tryz.ntmps167
  go_wp2_with (go_at_call 129; refine HF.out.mono ?_; rintro e w2 ⟨x, rfl, hx, O2, k2⟩)
  go_returns
  exact ⟨⟨x, rfl, hx⟩, O2, k2⟩
set_option maxHeartbeats 4000000 in
theorem vSyncDir_c (C : PC PS) (G Fd : Nat → Prop) (q p : Nat) (m : Option Nat) (v : Vs) (w : World) (O : PVo PS G q v w p m Fd) (hw : Wf v.st) :
    Calls Tryz.prog 170 #[.agg #[.pointer (some ⟨p, 0, none⟩)]] w fun e w' => e = .returned (.int .i64 0) ∧ VDid PS G q (v.on v.st.syncDir) w w' := by
  have HF : Hid (Calls Tryz.prog 126 #[.pointer (some ⟨p, 0, none⟩)] (w.alloc (.cells #[.pointer (some ⟨p, 0, none⟩)] 43)) fun e w' => e = .returned (.tuple #[]) ∧ VDid PS G q (v.on v.st.syncDir) w w') := by
    refine (C.syncDir Fd p v.st _ (O.box C (volB p)).1.disk hw).mono ?_
    rintro e w' ⟨rfl, h1⟩
    exact ⟨rfl, (O.changed C h1).1⟩
  clear O hw
  go_enter Tryz.func170, Tryz.ntmps170
  go_wp2_with (go_at_call 126; refine HF.out.mono ?_; rintro e w2 ⟨rfl, hd⟩)
  go_returns
  exact ⟨rfl, hd⟩
/-- What the disk answers to a Write. -/
def St.wrote (st : St) (n : Int) (data : ByteArray) : Nat × Nat := if (st.append n data).1 ≠ 0 then (0, (st.append n data).1) else (data.size, 0)
set_option maxHeartbeats 4000000 in
theorem vWrite_c (C : PC PS) (G Fd : Nat → Prop) (q p : Nat) (m : Option Nat) (v : Vs) (n : Int) (data : ByteArray) (w : World) (O : PVo PS G q v w p m Fd) (hw : Wf v.st) (hd : data.size ≤ 140737488355328) :
    Calls Tryz.prog 171 #[.agg #[.pointer (some ⟨p, 0, none⟩)], .int .i64 n, .string data] w fun e w' => e = .returned (.tuple #[.int .i64 (v.st.wrote n data).1, .int .i64 (v.st.wrote n data).2]) ∧ VDid PS G q (v.on (v.st.append n data).2) w w' := by
  have HF : Hid (Calls Tryz.prog 174 #[.pointer (some ⟨p, 0, none⟩), .int .i64 n, .string data] (w.alloc (.cells #[.pointer (some ⟨p, 0, none⟩)] 43)) fun e w' => e = .returned (.int .i64 (v.st.append n data).1) ∧ VDid PS G q (v.on (v.st.append n data).2) w w') := by
    refine (C.append Fd p v.st n data _ (O.box C (volB p)).1.disk hw hd).mono ?_
    rintro e w' ⟨rfl, h1⟩
    exact ⟨rfl, (O.changed C h1).1⟩
  clear O hw
  by_cases hf : (v.st.append n data).1 = 0
  · have HE : Hid (v.st.wrote n data = (data.size, 0)) := by show _ = _; unfold St.wrote; rw [if_neg (by simp [hf])]
    rw [hf] at HF
    clear hf
    go_enter Tryz.func171, Tryz.ntmps171
    go_wp2_with (go_at_call 174; refine HF.out.mono ?_; rintro e w2 ⟨rfl, hr⟩)
    go_returns
    rw [HE.out]
    exact ⟨rfl, hr⟩
  · have HE : Hid (v.st.wrote n data = (0, (v.st.append n data).1)) := by show _ = _; unfold St.wrote; rw [if_pos hf]
    have b1 : (((v.st.append n data).1 : Int) == 0) = false := by simp; omega
    obtain ⟨E, hE⟩ : ∃ E, E = (v.st.append n data).1 := ⟨_, rfl⟩
    rw [← hE] at HF HE b1
    clear hf hE
    have b2 : ((E : Int) != 0) = true := by simp [bne, b1]
    go_enter Tryz.func171, Tryz.ntmps171
    go_wp2_with (go_at_call 174; refine HF.out.mono ?_; rintro e w2 ⟨rfl, hr⟩)
    go_returns
    rw [HE.out]
    exact ⟨rfl, hr⟩
end Go.Proofs.YtofmiaaglbcebaaGreatDoor

-- The calls of the device that fails.
namespace Go.Proofs.YtofmiaaglbcebaaGreatDoor
open Go.RowKit
set_option linter.unusedVariables false
variable {PS : (Nat → Prop) → Nat → St → World → Prop}
theorem PVo.cell0 {G Fd : Nat → Prop} {q p : Nat} {m : Option Nat} {v : Vs} {w : World} (O : PVo PS G q v w p m Fd) : w.cell? ⟨q, 0, none⟩ = some (.iface 43 (.agg #[.pointer (some ⟨p, 0, none⟩)])) := O.cells.1
theorem VDid.after {G : Nat → Prop} {q : Nat} {v v' : Vs} {w w1 w2 : World} (h : PV PS G q v w1) (hk : Kp G w w1) (hd : VDid PS G q v' w1 w2) : VDid PS G q v' w w2 := by
  have h1 := hk.size
  have h2 := hd.2.size
  refine ⟨hd.1.mono (fun i hi => ?_) (fun i hi => ?_), hk.trans hd.2⟩
  · rcases hi with hi | hi
    · exact .inl hi
    · exact .inr ⟨by omega, hi.2⟩
  · rcases hi with hi | hi
    · exact hd.1.low i (.inl hi)
    · exact hi.2
theorem met_0 {v : Vs} (h : v.met.1 = 0) (st : St) : v.met.2.on st = v.met.2.on st := rfl
set_option maxHeartbeats 4000000 in
theorem dRead_c (C : PC PS) (G : Nat → Prop) (q : Nat) (v : Vs) (name : ByteArray) (w : World) (h : PV PS G q v w) (hw : Wf v.st) (hn : v.cnt ≤ 4194304) :
    Calls Tryz.prog 183 #[.pointer (some ⟨q, 0, none⟩), .string name] w fun e w' => e = .returned (.tuple #[.string (v.read name).1.1, .int .i64 (v.read name).1.2]) ∧ VDid PS G q (v.read name).2 w w' := by
  have HRef : Hid (Calls Tryz.prog 190 #[.pointer (some ⟨q, 0, none⟩)] w fun e w' => e = .returned (.int .i64 v.met.1) ∧ PV PS G q v.met.2 w' ∧ Kp G w w') := refusal_c C G q v w h hn
  have hs := met_st v
  by_cases hm : v.met.1 = 0
  · have HE : Hid (v.read name = (v.st.readN name, v.met.2)) := by show _ = _; unfold Vs.read St.readN; rw [if_neg (by simp [hm])]; split <;> rfl
    have HV : Hid (∀ p m Fd w1, PVo PS G q v.met.2 w1 p m Fd → Kp G w w1 → Calls Tryz.prog 168 #[.agg #[.pointer (some ⟨p, 0, none⟩)], .string name] w1 fun e w' => e = .returned (.tuple #[.string (v.st.readN name).1, .int .i64 (v.st.readN name).2]) ∧ VDid PS G q (v.met.2) w w') := fun p m Fd w1 O hk => by
      refine (vRead_c C G Fd q p m v.met.2 name w1 O (by rw [hs]; exact hw)).mono ?_
      rintro e w' ⟨rfl, O2, k2⟩
      rw [hs]
      exact ⟨rfl, VDid.of ⟨p, m, Fd, O2⟩ (hk.trans k2)⟩
    rw [hm] at HRef
    clear h hw hn hm hs
    go_enter Tryz.func183, Tryz.ntmps183
    go_wp2_with (first
      | (go_at_call 190; refine HRef.out.mono ?_; rintro e w1 ⟨rfl, ⟨p, m, Fd, O1⟩, hk1⟩; have c0 := O1.cell0)
      | (go_at_call 168; refine (HV.out p m Fd _ O1 hk1).mono ?_; rintro e w2 ⟨rfl, hd⟩))
    go_returns
    rw [HE.out]
    exact ⟨rfl, hd⟩
  · have HE : Hid (v.read name = ((⟨#[]⟩, v.met.1), v.met.2)) := by show _ = _; unfold Vs.read; rw [if_pos hm]
    have HOf : Hid (∀ W, PV PS G q v.met.2 W → Kp G w W → VDid PS G q v.met.2 w W) := fun W h1 h2 => VDid.of h1 h2
    have b1 : ((v.met.1 : Int) == 0) = false := by simp; omega
    obtain ⟨E, hE⟩ : ∃ E, E = v.met.1 := ⟨_, rfl⟩
    rw [← hE] at HRef HE b1
    have b2 : ((E : Int) != 0) = true := by simp [bne, b1]
    clear hm hE h hn hw hs
    go_enter Tryz.func183, Tryz.ntmps183
    go_wp2_with (go_at_call 190; refine HRef.out.mono ?_; rintro e w1 ⟨rfl, hv1, hk1⟩)
    go_returns
    rw [HE.out]
    exact ⟨rfl, HOf.out _ hv1 hk1⟩
set_option maxHeartbeats 4000000 in
theorem dRename_c (C : PC PS) (G : Nat → Prop) (q : Nat) (v : Vs) (old to : ByteArray) (w : World) (h : PV PS G q v w) (hw : Wf v.st) (hn : v.cnt ≤ 4194304) :
    Calls Tryz.prog 185 #[.pointer (some ⟨q, 0, none⟩), .string old, .string to] w fun e w' => e = .returned (.int .i64 (v.rename old to).1) ∧ VDid PS G q (v.rename old to).2 w w' := by
  have HRef : Hid (Calls Tryz.prog 190 #[.pointer (some ⟨q, 0, none⟩)] w fun e w' => e = .returned (.int .i64 v.met.1) ∧ PV PS G q v.met.2 w' ∧ Kp G w w') := refusal_c C G q v w h hn
  have hs := met_st v
  by_cases hm : v.met.1 = 0
  · have HE : Hid (v.rename old to = ((v.st.rename old to).1, v.met.2.on (v.st.rename old to).2)) := by show _ = _; unfold Vs.rename; rw [if_neg (by simp [hm])]
    have HV : Hid (∀ p m Fd w1, PVo PS G q v.met.2 w1 p m Fd → Kp G w w1 → Calls Tryz.prog 124 #[.pointer (some ⟨p, 0, none⟩), .string old, .string to] w1 fun e w' => e = .returned (.int .i64 (v.st.rename old to).1) ∧ VDid PS G q (v.met.2.on (v.st.rename old to).2) w w') := fun p m Fd w1 O hk => by
      refine (C.rename Fd p v.met.2.st old to w1 O.disk (by rw [hs]; exact hw)).mono ?_
      rintro e w' ⟨rfl, h1⟩
      rw [hs] at h1 ⊢
      exact ⟨rfl, VDid.after ⟨p, m, Fd, O⟩ hk (O.changed0 C h1)⟩
    rw [hm] at HRef
    clear h hw hn hm hs
    go_enter Tryz.func185, Tryz.ntmps185
    go_wp2_with (first
      | (go_at_call 190; refine HRef.out.mono ?_; rintro e w1 ⟨rfl, ⟨p, m, Fd, O1⟩, hk1⟩; have c0 := O1.cell0)
      | (go_at_call 124; refine (HV.out p m Fd _ O1 hk1).mono ?_; rintro e w2 ⟨rfl, hd⟩))
    go_returns
    rw [HE.out]
    exact ⟨rfl, hd⟩
  · have HE : Hid (v.rename old to = (v.met.1, v.met.2)) := by show _ = _; unfold Vs.rename; rw [if_pos hm]
    have HOf : Hid (∀ W, PV PS G q v.met.2 W → Kp G w W → VDid PS G q v.met.2 w W) := fun W h1 h2 => VDid.of h1 h2
    have b1 : ((v.met.1 : Int) == 0) = false := by simp; omega
    obtain ⟨E, hE⟩ : ∃ E, E = v.met.1 := ⟨_, rfl⟩
    rw [← hE] at HRef HE b1
    have b2 : ((E : Int) != 0) = true := by simp [bne, b1]
    clear hm hE h hn hw hs
    go_enter Tryz.func185, Tryz.ntmps185
    go_wp2_with (go_at_call 190; refine HRef.out.mono ?_; rintro e w1 ⟨rfl, hv1, hk1⟩)
    go_returns
    rw [HE.out]
    exact ⟨rfl, HOf.out _ hv1 hk1⟩
set_option maxHeartbeats 4000000 in
theorem dRemove_c (C : PC PS) (G : Nat → Prop) (q : Nat) (v : Vs) (name : ByteArray) (w : World) (h : PV PS G q v w) (hw : Wf v.st) (hn : v.cnt ≤ 4194304) :
    Calls Tryz.prog 184 #[.pointer (some ⟨q, 0, none⟩), .string name] w fun e w' => e = .returned (.int .i64 (v.remove name).1) ∧ VDid PS G q (v.remove name).2 w w' := by
  have HRef : Hid (Calls Tryz.prog 190 #[.pointer (some ⟨q, 0, none⟩)] w fun e w' => e = .returned (.int .i64 v.met.1) ∧ PV PS G q v.met.2 w' ∧ Kp G w w') := refusal_c C G q v w h hn
  have hs := met_st v
  by_cases hm : v.met.1 = 0
  · have HE : Hid (v.remove name = ((v.st.remove name).1, v.met.2.on (v.st.remove name).2)) := by show _ = _; unfold Vs.remove; rw [if_neg (by simp [hm])]
    have HV : Hid (∀ p m Fd w1, PVo PS G q v.met.2 w1 p m Fd → Kp G w w1 → Calls Tryz.prog 123 #[.pointer (some ⟨p, 0, none⟩), .string name] w1 fun e w' => e = .returned (.int .i64 (v.st.remove name).1) ∧ VDid PS G q (v.met.2.on (v.st.remove name).2) w w') := fun p m Fd w1 O hk => by
      refine (C.remove Fd p v.met.2.st name w1 O.disk (by rw [hs]; exact hw)).mono ?_
      rintro e w' ⟨rfl, h1⟩
      rw [hs] at h1 ⊢
      exact ⟨rfl, VDid.after ⟨p, m, Fd, O⟩ hk (O.changed0 C h1)⟩
    rw [hm] at HRef
    clear h hw hn hm hs
    go_enter Tryz.func184, Tryz.ntmps184
    go_wp2_with (first
      | (go_at_call 190; refine HRef.out.mono ?_; rintro e w1 ⟨rfl, ⟨p, m, Fd, O1⟩, hk1⟩; have c0 := O1.cell0)
      | (go_at_call 123; refine (HV.out p m Fd _ O1 hk1).mono ?_; rintro e w2 ⟨rfl, hd⟩))
    go_returns
    rw [HE.out]
    exact ⟨rfl, hd⟩
  · have HE : Hid (v.remove name = (v.met.1, v.met.2)) := by show _ = _; unfold Vs.remove; rw [if_pos hm]
    have HOf : Hid (∀ W, PV PS G q v.met.2 W → Kp G w W → VDid PS G q v.met.2 w W) := fun W h1 h2 => VDid.of h1 h2
    have b1 : ((v.met.1 : Int) == 0) = false := by simp; omega
    obtain ⟨E, hE⟩ : ∃ E, E = v.met.1 := ⟨_, rfl⟩
    rw [← hE] at HRef HE b1
    have b2 : ((E : Int) != 0) = true := by simp [bne, b1]
    clear hm hE h hn hw hs
    go_enter Tryz.func184, Tryz.ntmps184
    go_wp2_with (go_at_call 190; refine HRef.out.mono ?_; rintro e w1 ⟨rfl, hv1, hk1⟩)
    go_returns
    rw [HE.out]
    exact ⟨rfl, HOf.out _ hv1 hk1⟩
set_option maxHeartbeats 4000000 in
theorem dSync_c (C : PC PS) (G : Nat → Prop) (q : Nat) (v : Vs) (n : Int) (w : World) (h : PV PS G q v w) (hw : Wf v.st) (hn : v.cnt ≤ 4194304) :
    Calls Tryz.prog 187 #[.pointer (some ⟨q, 0, none⟩), .int .i64 n] w fun e w' => e = .returned (.int .i64 (v.syncB n).1) ∧ VDid PS G q (v.syncB n).2 w w' := by
  have HRef : Hid (Calls Tryz.prog 190 #[.pointer (some ⟨q, 0, none⟩)] w fun e w' => e = .returned (.int .i64 v.met.1) ∧ PV PS G q v.met.2 w' ∧ Kp G w w') := refusal_c C G q v w h hn
  have hs := met_st v
  by_cases hm : v.met.1 = 0
  · have HE : Hid (v.syncB n = ((v.st.sync n).1, v.met.2.on (v.st.sync n).2)) := by show _ = _; unfold Vs.syncB; rw [if_neg (by simp [hm])]
    have HV : Hid (∀ p m Fd w1, PVo PS G q v.met.2 w1 p m Fd → Kp G w w1 → Calls Tryz.prog 125 #[.pointer (some ⟨p, 0, none⟩), .int .i64 n] w1 fun e w' => e = .returned (.int .i64 (v.st.sync n).1) ∧ VDid PS G q (v.met.2.on (v.st.sync n).2) w w') := fun p m Fd w1 O hk => by
      refine (C.sync Fd p v.met.2.st n w1 O.disk (by rw [hs]; exact hw)).mono ?_
      rintro e w' ⟨rfl, h1⟩
      rw [hs] at h1 ⊢
      exact ⟨rfl, VDid.after ⟨p, m, Fd, O⟩ hk (O.changed0 C h1)⟩
    rw [hm] at HRef
    clear h hw hn hm hs
    go_enter Tryz.func187, Tryz.ntmps187
    go_wp2_with (first
      | (go_at_call 190; refine HRef.out.mono ?_; rintro e w1 ⟨rfl, ⟨p, m, Fd, O1⟩, hk1⟩; have c0 := O1.cell0)
      | (go_at_call 125; refine (HV.out p m Fd _ O1 hk1).mono ?_; rintro e w2 ⟨rfl, hd⟩))
    go_returns
    rw [HE.out]
    exact ⟨rfl, hd⟩
  · have HE : Hid (v.syncB n = (v.met.1, v.met.2)) := by show _ = _; unfold Vs.syncB; rw [if_pos hm]
    have HOf : Hid (∀ W, PV PS G q v.met.2 W → Kp G w W → VDid PS G q v.met.2 w W) := fun W h1 h2 => VDid.of h1 h2
    have b1 : ((v.met.1 : Int) == 0) = false := by simp; omega
    obtain ⟨E, hE⟩ : ∃ E, E = v.met.1 := ⟨_, rfl⟩
    rw [← hE] at HRef HE b1
    have b2 : ((E : Int) != 0) = true := by simp [bne, b1]
    clear hm hE h hn hw hs
    go_enter Tryz.func187, Tryz.ntmps187
    go_wp2_with (go_at_call 190; refine HRef.out.mono ?_; rintro e w1 ⟨rfl, hv1, hk1⟩)
    go_returns
    rw [HE.out]
    exact ⟨rfl, HOf.out _ hv1 hk1⟩
set_option maxHeartbeats 4000000 in
theorem dSyncDir_c (C : PC PS) (G : Nat → Prop) (q : Nat) (v : Vs)  (w : World) (h : PV PS G q v w) (hw : Wf v.st) (hn : v.cnt ≤ 4194304) :
    Calls Tryz.prog 188 #[.pointer (some ⟨q, 0, none⟩)] w fun e w' => e = .returned (.int .i64 v.syncDir.1) ∧ VDid PS G q (v.syncDir).2 w w' := by
  have HRef : Hid (Calls Tryz.prog 190 #[.pointer (some ⟨q, 0, none⟩)] w fun e w' => e = .returned (.int .i64 v.met.1) ∧ PV PS G q v.met.2 w' ∧ Kp G w w') := refusal_c C G q v w h hn
  have hs := met_st v
  by_cases hm : v.met.1 = 0
  · have HE : Hid (v.syncDir = (0, v.met.2.on v.st.syncDir)) := by show _ = _; unfold Vs.syncDir; rw [if_neg (by simp [hm])]
    have HV : Hid (∀ p m Fd w1, PVo PS G q v.met.2 w1 p m Fd → Kp G w w1 → Calls Tryz.prog 170 #[.agg #[.pointer (some ⟨p, 0, none⟩)]] w1 fun e w' => e = .returned (.int .i64 0) ∧ VDid PS G q (v.met.2.on v.st.syncDir) w w') := fun p m Fd w1 O hk => by
      refine (vSyncDir_c C G Fd q p m v.met.2 w1 O (by rw [hs]; exact hw)).mono ?_
      rintro e w' ⟨rfl, h1⟩
      rw [hs] at h1
      exact ⟨rfl, VDid.after ⟨p, m, Fd, O⟩ hk h1⟩
    rw [hm] at HRef
    clear h hw hn hm hs
    go_enter Tryz.func188, Tryz.ntmps188
    go_wp2_with (first
      | (go_at_call 190; refine HRef.out.mono ?_; rintro e w1 ⟨rfl, ⟨p, m, Fd, O1⟩, hk1⟩; have c0 := O1.cell0)
      | (go_at_call 170; refine (HV.out p m Fd _ O1 hk1).mono ?_; rintro e w2 ⟨rfl, hd⟩))
    go_returns
    rw [HE.out]
    exact ⟨rfl, hd⟩
  · have HE : Hid (v.syncDir = (v.met.1, v.met.2)) := by show _ = _; unfold Vs.syncDir; rw [if_pos hm]
    have HOf : Hid (∀ W, PV PS G q v.met.2 W → Kp G w W → VDid PS G q v.met.2 w W) := fun W h1 h2 => VDid.of h1 h2
    have b1 : ((v.met.1 : Int) == 0) = false := by simp; omega
    obtain ⟨E, hE⟩ : ∃ E, E = v.met.1 := ⟨_, rfl⟩
    rw [← hE] at HRef HE b1
    have b2 : ((E : Int) != 0) = true := by simp [bne, b1]
    clear hm hE h hn hw hs
    go_enter Tryz.func188, Tryz.ntmps188
    go_wp2_with (go_at_call 190; refine HRef.out.mono ?_; rintro e w1 ⟨rfl, hv1, hk1⟩)
    go_returns
    rw [HE.out]
    exact ⟨rfl, HOf.out _ hv1 hk1⟩
end Go.Proofs.YtofmiaaglbcebaaGreatDoor

-- The calls of the device that fails: List, Stat.
namespace Go.Proofs.YtofmiaaglbcebaaGreatDoor
open Go.RowKit
set_option linter.unusedVariables false
variable {PS : (Nat → Prop) → Nat → St → World → Prop}
attribute [local go_sem ↓] Go.wp_at_zero Go.wp_at_succ
set_option maxHeartbeats 4000000 in
theorem dList_c (C : PC PS) (G : Nat → Prop) (q : Nat) (v : Vs) (w : World) (h : PV PS G q v w) (hw : Wf v.st) (hn : v.cnt ≤ 4194304) :
    Calls Tryz.prog 182 #[.pointer (some ⟨q, 0, none⟩)] w fun e w' => (∃ x, e = .returned (.tuple #[x, .int .i64 v.list.1.2]) ∧ w'.ownsRow w.heap.size 9 1 x v.list.1.1.length (strV v.list.1.1)) ∧ VDid PS G q v.list.2 w w' := by
  have HRef : Hid (Calls Tryz.prog 190 #[.pointer (some ⟨q, 0, none⟩)] w fun e w' => e = .returned (.int .i64 v.met.1) ∧ PV PS G q v.met.2 w' ∧ Kp G w w') := refusal_c C G q v w h hn
  have hs := met_st v
  by_cases hm : v.met.1 = 0
  · have HE : Hid (v.list = ((v.st.names, 0), v.met.2)) := by show _ = _; unfold Vs.list; rw [if_neg (by simp [hm])]
    have HV : Hid (∀ p m Fd w1, PVo PS G q v.met.2 w1 p m Fd → Kp G w w1 → Calls Tryz.prog 167 #[.agg #[.pointer (some ⟨p, 0, none⟩)]] w1 fun e w' => ∃ x, e = .returned (.tuple #[x, .int .i64 0]) ∧ w'.ownsRow w.heap.size 9 1 x v.st.names.length (strV v.st.names) ∧ VDid PS G q v.met.2 w w') := fun p m Fd w1 O hk => by
      refine (vList_c C G Fd q p m v.met.2 w1 O (by rw [hs]; exact hw)).mono ?_
      rintro e w' ⟨⟨x, rfl, hx⟩, O2, k2⟩
      rw [hs] at hx
      exact ⟨x, rfl, own_mono hx hk.size, VDid.of ⟨p, m, Fd, O2⟩ (hk.trans k2)⟩
    rw [hm] at HRef
    clear h hw hn hm hs
    go_enter Tryz.func182, Tryz.ntmps182
    go_wp2_with (first
      | (go_at_call 190; refine HRef.out.mono ?_; rintro e w1 ⟨rfl, ⟨p, m, Fd, O1⟩, hk1⟩; have c0 := O1.cell0)
      | (go_at_call 167; refine (HV.out p m Fd _ O1 hk1).mono ?_; rintro e w2 ⟨x, rfl, hx, hd⟩))
    go_returns
    rw [HE.out]
    exact ⟨⟨x, rfl, hx⟩, hd⟩
  · have HE : Hid (v.list = (([], v.met.1), v.met.2)) := by show _ = _; unfold Vs.list; rw [if_pos hm]
    have HOf : Hid (∀ W, PV PS G q v.met.2 W → Kp G w W → VDid PS G q v.met.2 w W) := fun W h1 h2 => VDid.of h1 h2
    have b1 : ((v.met.1 : Int) == 0) = false := by simp; omega
    obtain ⟨E, hE⟩ : ∃ E, E = v.met.1 := ⟨_, rfl⟩
    rw [← hE] at HRef HE b1
    have b2 : ((E : Int) != 0) = true := by simp [bne, b1]
    clear hm hE h hn hw hs
    go_enter Tryz.func182, Tryz.ntmps182
    go_wp2_with (go_at_call 190; refine HRef.out.mono ?_; rintro e w1 ⟨rfl, hv1, hk1⟩)
    go_returns
    rw [HE.out]
    exact ⟨⟨_, rfl, World.ownsRow_nil _ _ _ _⟩, HOf.out _ hv1 hk1⟩
def stV (v : Vs) (name : ByteArray) : Array Value := #[.int .i64 (v.stat name).1.1.2.date, .int .i64 (v.stat name).1.1.2.uid, .int .i64 (v.stat name).1.1.2.gid, .int .i64 (v.stat name).1.1.2.mode, .string (v.stat name).1.1.1, .int .i64 (v.stat name).1.1.2.data.size]
set_option maxHeartbeats 4000000 in
theorem dStat_c (C : PC PS) (G : Nat → Prop) (q : Nat) (v : Vs) (name : ByteArray) (w : World) (h : PV PS G q v w) (hw : Wf v.st) (hn : v.cnt ≤ 4194304) :
    Calls Tryz.prog 186 #[.pointer (some ⟨q, 0, none⟩), .string name] w fun e w' => e = .returned (.tuple #[.agg (stV v name), .int .i64 (v.stat name).1.2]) ∧ VDid PS G q (v.stat name).2 w w' := by
  obtain ⟨X, hX⟩ : ∃ X, X = Obj.cells #[.int .i64 0, .int .i64 0, .int .i64 0, .int .i64 0, .string ⟨#[]⟩, .int .i64 0] 72 := ⟨_, rfl⟩
  have hbA : Below w.heap.size w (w.alloc X) := (Below.refl _ w).alloc (Nat.le_refl _) X
  have hsA : (w.alloc X).heap.size = w.heap.size + 1 := by simp
  have HRef : Hid (Calls Tryz.prog 190 #[.pointer (some ⟨q, 0, none⟩)] (w.alloc X) fun e w' => e = .returned (.int .i64 v.met.1) ∧ PV PS G q v.met.2 w' ∧ Kp G w w' ∧ w'.heap[w.heap.size]? = some (.cells #[.int .i64 0, .int .i64 0, .int .i64 0, .int .i64 0, .string ⟨#[]⟩, .int .i64 0] 72 (0, 0)) ∧ w.heap.size < w'.heap.size) := (refusal_c C G q v _ (h.below C hbA) hn).mono (by
    rintro e w' ⟨rfl, h1, h2⟩
    refine ⟨rfl, h1, (Kp.of_below hbA).trans h2, ?_, by have := h2.size; omega⟩
    rw [h2.block _ (by omega) (fun h' => by have := h.low _ h'; omega), heap_alloc_new, hX])
  have hs := met_st v
  have HN : Hid (¬ G w.heap.size) := fun h' => by have := h.low _ h'; omega
  by_cases hm : v.met.1 = 0
  · have HE : Hid (v.stat name = (((v.st.find name).1, (v.st.find name).2.2), v.met.2)) := by show _ = _; unfold Vs.stat; rw [if_neg (by simp [hm])]
    have HV : Hid (∀ p m Fd w1, PVo PS G q v.met.2 w1 p m Fd → Kp G w w1 → w1.heap[w.heap.size]? = some (.cells #[.int .i64 0, .int .i64 0, .int .i64 0, .int .i64 0, .string ⟨#[]⟩, .int .i64 0] 72 (0, 0)) → w.heap.size < w1.heap.size → Calls Tryz.prog 169 #[.agg #[.pointer (some ⟨p, 0, none⟩)], .string name] w1 fun e w' => e = .returned (.tuple #[.agg #[.int .i64 (v.st.find name).1.2.date, .int .i64 (v.st.find name).1.2.uid, .int .i64 (v.st.find name).1.2.gid, .int .i64 (v.st.find name).1.2.mode, .string (v.st.find name).1.1, .int .i64 (v.st.find name).1.2.data.size], .int .i64 (v.st.find name).2.2]) ∧ PVo PS G q v.met.2 w' p m Fd ∧ Kp G w w' ∧ w'.heap[w.heap.size]? = some (.cells #[.int .i64 0, .int .i64 0, .int .i64 0, .int .i64 0, .string ⟨#[]⟩, .int .i64 0] 72 (0, 0))) := fun p m Fd w1 O hk hx hl => by
      refine (vStat_c C G Fd q p m v.met.2 name w1 O (by rw [hs]; exact hw)).mono ?_
      rintro e w' ⟨rfl, O2, k2⟩
      rw [hs]
      exact ⟨rfl, O2, hk.trans k2, (k2.block _ hl HN.out).trans hx⟩
    rw [hm] at HRef
    have HSV : Hid (stV v name = #[.int .i64 (v.st.find name).1.2.date, .int .i64 (v.st.find name).1.2.uid, .int .i64 (v.st.find name).1.2.gid, .int .i64 (v.st.find name).1.2.mode, .string (v.st.find name).1.1, .int .i64 (v.st.find name).1.2.data.size]) := by show _ = _; unfold stV; rw [HE.out]
    have HE2 : Hid ((v.stat name).1.2 = (v.st.find name).2.2 ∧ (v.stat name).2 = v.met.2) := by show _ ∧ _; rw [HE.out]; exact ⟨rfl, rfl⟩
    clear h hw hn hm hs hbA hsA HE
    subst hX
    obtain ⟨F1, hF1⟩ : ∃ x, x = (v.st.find name).1.2.date := ⟨_, rfl⟩
    obtain ⟨F2, hF2⟩ : ∃ x, x = (v.st.find name).1.2.uid := ⟨_, rfl⟩
    obtain ⟨F3, hF3⟩ : ∃ x, x = (v.st.find name).1.2.gid := ⟨_, rfl⟩
    obtain ⟨F4, hF4⟩ : ∃ x, x = (v.st.find name).1.2.mode := ⟨_, rfl⟩
    obtain ⟨F5, hF5⟩ : ∃ x, x = (v.st.find name).1.1 := ⟨_, rfl⟩
    obtain ⟨F6, hF6⟩ : ∃ x, x = (v.st.find name).1.2.data.size := ⟨_, rfl⟩
    obtain ⟨F8, hF8⟩ : ∃ x, x = (v.st.find name).2.2 := ⟨_, rfl⟩
    rw [← hF1, ← hF2, ← hF3, ← hF4, ← hF5, ← hF6, ← hF8] at HV
    rw [← hF1, ← hF2, ← hF3, ← hF4, ← hF5, ← hF6] at HSV
    rw [← hF8] at HE2
    clear hF1 hF2 hF3 hF4 hF5 hF6 hF8
    go_enter Tryz.func186, Tryz.ntmps186
    go_wp2_with (go_at_call 190; refine HRef.out.mono ?_; rintro e w1 ⟨rfl, ⟨p, m, Fd, O1⟩, hk1, hx1, hl1⟩; have c0 := O1.cell0)
    go_at_call 169
    refine (HV.out p m Fd _ O1 hk1 hx1 hl1).mono ?_
    rintro e w2 ⟨rfl, O2, hk2, hx2⟩
    go_wp2_with (refine wpList_store_row rfl 72 _ _ rfl w.heap.size #[.int .i64 F1, .int .i64 F2, .int .i64 F3, .int .i64 F4, .string F5, .int .i64 F6] rfl rfl _ _ hx2 sizeInf4 rfl (all6 _ _ _ _ _ _) ?_)
    refine bodyPost_ret (results_cell_tmp1 rfl _ _ w.heap.size _ _ _ _ rfl (setRow_heap _ _ _ #[.int .i64 F1, .int .i64 F2, .int .i64 F3, .int .i64 F4, .string F5, .int .i64 F6] _ _ hx2) Tryz.underlying72 rfl sizeInf4) rfl ?_
    rw [HSV.out, HE2.out.1, HE2.out.2]
    obtain ⟨O3, k3⟩ := O2.row C hk2 HN.out (Nat.le_refl _) #[.int .i64 F1, .int .i64 F2, .int .i64 F3, .int .i64 F4, .string F5, .int .i64 F6]
    exact ⟨rfl, VDid.of ⟨p, m, Fd, O3⟩ k3⟩
  · have HE : Hid (v.stat name = (((⟨#[]⟩, noBd), v.met.1), v.met.2)) := by show _ = _; unfold Vs.stat; rw [if_pos hm]
    have HSV : Hid (stV v name = #[.int .i64 0, .int .i64 0, .int .i64 0, .int .i64 0, .string ⟨#[]⟩, .int .i64 0]) := by show _ = _; unfold stV; rw [HE.out]; rfl
    have b1 : ((v.met.1 : Int) == 0) = false := by simp; omega
    obtain ⟨E, hE⟩ : ∃ E, E = v.met.1 := ⟨_, rfl⟩
    rw [← hE] at HRef HE b1
    have b2 : ((E : Int) != 0) = true := by simp [bne, b1]
    clear hm hE h hn hw hs hbA hsA
    subst hX
    go_enter Tryz.func186, Tryz.ntmps186
    go_wp2_with fail
    go_at_call 190
    refine HRef.out.mono ?_
    rintro e w1 ⟨rfl, ⟨p, m, Fd, O1⟩, hk1, hx1, hl1⟩
    go_wp2_with (refine wpList_store_row rfl 72 _ _ rfl w.heap.size #[.int .i64 0, .int .i64 0, .int .i64 0, .int .i64 0, .string ⟨#[]⟩, .int .i64 0] rfl rfl _ _ hx1 sizeInf4 rfl (all6 0 0 0 0 0 ⟨#[]⟩) ?_)
    refine bodyPost_ret (results_cell_tmp1 rfl _ _ w.heap.size _ _ _ _ rfl (setRow_heap _ _ _ #[.int .i64 0, .int .i64 0, .int .i64 0, .int .i64 0, .string ⟨#[]⟩, .int .i64 0] _ _ hx1) Tryz.underlying72 rfl sizeInf4) rfl ?_
    rw [HSV.out, HE.out]
    obtain ⟨O3, k3⟩ := O1.row C hk1 HN.out (Nat.le_refl _) #[.int .i64 0, .int .i64 0, .int .i64 0, .int .i64 0, .string ⟨#[]⟩, .int .i64 0]
    exact ⟨rfl, VDid.of ⟨p, m, Fd, O3⟩ k3⟩
end Go.Proofs.YtofmiaaglbcebaaGreatDoor

-- The calls of the device that fails: Create.
namespace Go.Proofs.YtofmiaaglbcebaaGreatDoor
open Go.RowKit
set_option linter.unusedVariables false
variable {PS : (Nat → Prop) → Nat → St → World → Prop}
attribute [local go_sem ↓] Go.wp_at_zero Go.wp_at_succ
set_option maxHeartbeats 4000000 in
theorem dCreate_c (C : PC PS) (G : Nat → Prop) (q : Nat) (v : Vs) (name : ByteArray) (m0 m1 m2 m3 : Int) (w : World) (h : PV PS G q v w) (hw : Wf v.st) (hn : v.cnt ≤ 4194304) :
    Calls Tryz.prog 181 #[.pointer (some ⟨q, 0, none⟩), .string name, .agg #[.int .i64 m0, .int .i64 m1, .int .i64 m2, .int .i64 m3]] w fun e w' => e = .returned (.tuple #[.int .i64 (v.create name m0 m1 m2 m3).1.1, .int .i64 (v.create name m0 m1 m2 m3).1.2]) ∧ VDid PS G q (v.create name m0 m1 m2 m3).2 w w' := by
  obtain ⟨X, hX⟩ : ∃ X, X = Obj.cells #[.int .i64 m0, .int .i64 m1, .int .i64 m2, .int .i64 m3] 30 := ⟨_, rfl⟩
  have hbA : Below w.heap.size w (w.alloc X) := (Below.refl _ w).alloc (Nat.le_refl _) X
  have hsA : (w.alloc X).heap.size = w.heap.size + 1 := by simp
  have HRef : Hid (Calls Tryz.prog 190 #[.pointer (some ⟨q, 0, none⟩)] (w.alloc X) fun e w' => e = .returned (.int .i64 v.met.1) ∧ PV PS G q v.met.2 w' ∧ Kp G w w' ∧ w'.heap[w.heap.size]? = some (.cells #[.int .i64 m0, .int .i64 m1, .int .i64 m2, .int .i64 m3] 30 (0, 0))) := (refusal_c C G q v _ (h.below C hbA) hn).mono (by
    rintro e w' ⟨rfl, h1, h2⟩
    refine ⟨rfl, h1, (Kp.of_below hbA).trans h2, ?_⟩
    rw [h2.block _ (by omega) (fun h' => by have := h.low _ h'; omega), heap_alloc_new, hX])
  have hs := met_st v
  by_cases hm : v.met.1 = 0
  · have HE : Hid (v.create name m0 m1 m2 m3 = ((v.st.create name m0 m1 m2 m3).1, v.met.2.on (v.st.create name m0 m1 m2 m3).2)) := by show _ = _; unfold Vs.create; rw [if_neg (by simp [hm])]
    have HV : Hid (∀ p m Fd w1, PVo PS G q v.met.2 w1 p m Fd → Kp G w w1 → Calls Tryz.prog 122 #[.pointer (some ⟨p, 0, none⟩), .string name, .agg #[.int .i64 m0, .int .i64 m1, .int .i64 m2, .int .i64 m3]] w1 fun e w' => e = .returned (.tuple #[.int .i64 (v.st.create name m0 m1 m2 m3).1.1, .int .i64 (v.st.create name m0 m1 m2 m3).1.2]) ∧ VDid PS G q (v.met.2.on (v.st.create name m0 m1 m2 m3).2) w w') := fun p m Fd w1 O hk => by
      refine (C.create Fd p v.met.2.st name m0 m1 m2 m3 w1 O.disk (by rw [hs]; exact hw)).mono ?_
      rintro e w' ⟨rfl, h1⟩
      rw [hs] at h1 ⊢
      exact ⟨rfl, VDid.after ⟨p, m, Fd, O⟩ hk (O.changed0 C h1)⟩
    have HKE : Hid (∀ p m Fd w1, PVo PS G q v.met.2 w1 p m Fd → Kp G w w1 → w1.heap[w.heap.size]? = some (.cells #[.int .i64 m0, .int .i64 m1, .int .i64 m2, .int .i64 m3] 30 (0, 0)) → ∀ W, Below w1.heap.size w1 W → W.cell? ⟨q, 0, none⟩ = some (.iface 43 (.agg #[.pointer (some ⟨p, 0, none⟩)])) ∧ W.cell? ⟨w.heap.size, 0, none⟩ = some (.int .i64 m0) ∧ W.cell? ⟨w.heap.size, 1, none⟩ = some (.int .i64 m1) ∧ W.cell? ⟨w.heap.size, 2, none⟩ = some (.int .i64 m2) ∧ W.cell? ⟨w.heap.size, 3, none⟩ = some (.int .i64 m3) ∧ Below w1.heap.size w1 W) := fun p m Fd w1 O hk hx W hb => by
      have OW := O.same C hb.size fun k _ hk => hb.block k hk
      have hxW := (hb.block _ (Array.getElem?_eq_some_iff.1 hx).1).trans hx
      refine ⟨OW.cell0, ?_, ?_, ?_, ?_, hb⟩ <;> (rw [Lib.cell_of_heap hxW]; rfl)
    have HAL : Hid (∀ p m Fd w1 W, PVo PS G q v.met.2 w1 p m Fd → Kp G w w1 → Below w1.heap.size w1 W → PVo PS G q v.met.2 W p m Fd ∧ Kp G w W) := fun p m Fd w1 W O hk hb => ⟨O.same C hb.size fun k _ hk => hb.block k hk, hk.kept hb⟩
    rw [hm] at HRef
    clear h hw hn hm hs hbA hsA
    subst hX
    go_enter Tryz.func181, Tryz.ntmps181
    go_wp2_with (go_at_call 190; refine HRef.out.mono ?_; rintro e w1 ⟨rfl, ⟨p, m, Fd, O1⟩, hk1, hx1⟩)
    obtain ⟨c0, y0, y1, y2, y3, _⟩ := HKE.out p m Fd w1 O1 hk1 hx1 w1 (Below.refl _ _)
    have HC1 : Hid (∀ W : World, W.heap = w1.heap → W.os = w1.os → W.tape = w1.tape → W.output = w1.output → Calls Tryz.prog 122 #[.pointer (some ⟨p, 0, none⟩), .string name, .agg #[.int .i64 m0, .int .i64 m1, .int .i64 m2, .int .i64 m3]] W fun e w' => e = .returned (.tuple #[.int .i64 (v.st.create name m0 m1 m2 m3).1.1, .int .i64 (v.st.create name m0 m1 m2 m3).1.2]) ∧ VDid PS G q (v.met.2.on (v.st.create name m0 m1 m2 m3).2) w w') := fun W h1 h2 h3 h4 => by
      have hb : Below w1.heap.size w1 W := ⟨h2, h3, h4, by rw [h1]; exact Nat.le_refl _, fun k _ => by rw [h1]⟩
      exact HV.out p m Fd W (HAL.out p m Fd w1 W O1 hk1 hb).1 (HAL.out p m Fd w1 W O1 hk1 hb).2
    clear O1 hk1 hx1 HV HKE HAL
    go_region_with (first | (go_at_call 122; refine (HC1.out _ ?_ ?_ ?_ ?_).mono ?_; rfl; rfl; rfl; rfl; rintro e w2 ⟨rfl, hd⟩))
    all_goals
      go_wp2
      go_returns
      rw [HE.out]
      exact ⟨rfl, hd⟩
  · have HE : Hid (v.create name m0 m1 m2 m3 = ((0, v.met.1), v.met.2)) := by show _ = _; unfold Vs.create; rw [if_pos hm]
    have HOf : Hid (∀ W, PV PS G q v.met.2 W → Kp G w W → VDid PS G q v.met.2 w W) := fun W h1 h2 => VDid.of h1 h2
    have b1 : ((v.met.1 : Int) == 0) = false := by simp; omega
    obtain ⟨E, hE⟩ : ∃ E, E = v.met.1 := ⟨_, rfl⟩
    rw [← hE] at HRef HE b1
    have b2 : ((E : Int) != 0) = true := by simp [bne, b1]
    clear hm hE h hn hw hs hbA hsA
    subst hX
    go_enter Tryz.func181, Tryz.ntmps181
    go_wp2_with (go_at_call 190; refine HRef.out.mono ?_; rintro e w1 ⟨rfl, hv1, hk1, hx1⟩)
    go_returns
    rw [HE.out]
    exact ⟨rfl, HOf.out _ hv1 hk1⟩
end Go.Proofs.YtofmiaaglbcebaaGreatDoor
