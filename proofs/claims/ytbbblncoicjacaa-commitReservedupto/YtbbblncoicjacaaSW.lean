
-- CommitReserved's walk.
import Derived.Test.YtbbblncoicjacaaXS
import Derived.Test.YtbbblncoicjacaaFE
import Derived.Test.YtbbblncoicjacaaFB
namespace Go.Proofs.Ytbbblncoicjacaa
open Go.ChangeShapes Go.WideShapes Go.ChangeAt Go.RowKit
set_option linter.unusedVariables false
set_option linter.unusedSimpArgs false
set_option maxRecDepth 100000
variable {PS : (Nat → Prop) → Nat → St → World → Prop}
theorem assertFE17 (v : Value) (w : World) : (Instr.typeAssert (.iface 62 v) 35 62 true).run Try.prog w = .ok (.tuple #[v, .bool true]) w := by kernel_rfl
set_option maxHeartbeats 4000000 in
theorem told16_c (B : Nat) (op name : ByteArray) (e : Nat) (ev : Value) (w : World) (h : ErrIs w B op name e ev) :
    Calls Try.prog 10 #[ev, .string op, .string name, .int .i64 e] w fun r w' => r = .returned (.bool true) ∧ Alike w w' := by
  rcases h with ⟨rfl, rfl⟩ | ⟨h0, b, _, rfl, hb⟩
  · go_enter Try.func10, Try.ntmps10
    go_wp2
    go_returns
    exact ⟨rfl, ⟨rfl, rfl, rfl, rfl⟩⟩
  · have c0 : w.cell? ⟨b, 0, none⟩ = some (.string op) := by rw [Lib.cell_of_heap hb]; rfl
    have c1 : w.cell? ⟨b, 1, none⟩ = some (.string name) := by rw [Lib.cell_of_heap hb]; rfl
    have c2 : w.cell? ⟨b, 2, none⟩ = some (.int .i64 e) := by rw [Lib.cell_of_heap hb]; rfl
    have b1 : ((e : Int) == 0) = false := by simp; omega
    have b2 : ((e : Int) == e) = true := by simp
    have b3 : (op.toList == op.toList) = true := by simp
    have b4 : (name.toList == name.toList) = true := by simp
    have hfe := assertFE17
    clear hb h0
    go_enter Try.func10, Try.ntmps10
    go_wp2
    go_returns
    exact ⟨rfl, ⟨rfl, rfl, rfl, rfl⟩⟩
theorem slash_bad (nm : ByteArray) : okName (nm ++ ⟨#[47]⟩) = false := by
  unfold okName
  have : (nm ++ (⟨#[47]⟩ : ByteArray)).data.toList = nm.data.toList ++ [47] := by
    rw [ByteArray.data_append]; simp
  rw [this, List.all_append]
  simp [okByte]
theorem bad_not_tmp {nm : ByteArray} (h : okName nm = false) : nm ≠ tmpB := fun e => by rw [e, tmp_ok] at h; cases h
theorem formR {w : World} {v : Value} {L : List Fil} (h : RowF w v L) : ∃ ao cap, v = .slice ao L.length cap := by
  obtain ⟨ao, cap, e, _, _⟩ := h.form
  exact ⟨ao, cap, e⟩
def xBoxR (nm : ByteArray) (m0 m1 m2 m3 : Int) (da : ByteArray) : Obj := .cells #[.string nm, .int .i64 m0, .int .i64 m1, .int .i64 m2, .int .i64 m3, .string da] 26
theorem xboxR_cells {w W : World} {nm da : ByteArray} {m0 m1 m2 m3 : Int} (hb : Below (w.heap.size + 1) (w.alloc (xBoxR nm m0 m1 m2 m3 da)) W) : W.cell? ⟨w.heap.size, 0, none⟩ = some (.string nm) ∧ W.cell? ⟨w.heap.size, 1, none⟩ = some (.int .i64 m0) ∧ W.cell? ⟨w.heap.size, 2, none⟩ = some (.int .i64 m1) ∧ W.cell? ⟨w.heap.size, 3, none⟩ = some (.int .i64 m2) ∧ W.cell? ⟨w.heap.size, 4, none⟩ = some (.int .i64 m3) ∧ W.cell? ⟨w.heap.size, 5, none⟩ = some (.string da) := by
  have h : W.heap[w.heap.size]? = some (.cells #[.string nm, .int .i64 m0, .int .i64 m1, .int .i64 m2, .int .i64 m3, .string da] 26 (0, 0)) := by
    rw [hb.block _ (by omega), heap_alloc_new]; rfl
  refine ⟨?_, ?_, ?_, ?_, ?_, ?_⟩ <;> (rw [Lib.cell_of_heap h]; rfl)
theorem size_memR {l : List Fil} {x : Fil} (h : x ∈ l) : x.2.2.size ≤ sizeF l := by
  unfold sizeF
  induction l with
  | nil => simp at h
  | cons y r ih =>
    rw [List.map_cons, List.sum_cons]
    rcases List.mem_cons.1 h with rfl | h
    · omega
    · have := ih h; omega
theorem vol_arm (C : PC PS) (B q : Nat) (v : Vs) (plan : List Flt) (pv : Value) (w0 w : World) (h : Vol PS B q v w0) (hB : B ≤ w0.heap.size) (hb : Below w0.heap.size w0 w) (hp : RowP w pv plan) (hpf : plan ≠ [] → ∀ k, pv.ownBlock = some k → w0.heap.size ≤ k) (hl : plan.length ≤ 4194304) :
    Calls Try.prog 6 #[.pointer (some ⟨q, 0, none⟩), pv] w fun e w' => e = .returned (.tuple #[]) ∧ Vol PS B q (v.arm plan) w' ∧ Below B w0 w' := by
  obtain ⟨G, h1, h2⟩ := h
  have hlow := h1.low
  refine (fArm_c C G q v plan pv w (h1.below C hb) hp (fun hne k hk hG => by have := hpf hne k hk; have := hlow k hG; omega) hl).mono ?_
  rintro e w' ⟨rfl, hd⟩
  have hs := hb.size
  obtain ⟨a1, a2⟩ := Vol.did h2 (by omega) hd
  exact ⟨rfl, a1, (hb.mono hB).trans a2⟩
/-- The first refusal, and behind it the second. -/
def Two1 (PS : (Nat → Prop) → Nat → St → World → Prop) (B q : Nat) (v : Vs) (ev : Value) (w : World) : Prop := ∃ G, PV PS G q v w ∧ (∀ k, G k → B ≤ k) ∧ ErrO w G B replB tmpB 161 ev
theorem rep_first (C : PC PS) (B q : Nat) (v : Vs) (da : ByteArray) (m0 m1 m2 m3 : Int) (w : World) (kk : Nat) (h : Vol PS B q v w) (hB : B ≤ w.heap.size) (hv : Vf v kk) (hk : kk + nP da + 8 < 2097151) (hd : da.size ≤ 140737488355328) :
    Calls Try.prog 8 #[.pointer (some ⟨q, 0, none⟩), .string ⟨#[97, 114, 46, 116, 109, 112, 126]⟩, .string da, .agg #[.int .i64 m0, .int .i64 m1, .int .i64 m2, .int .i64 m3]] w fun r w' => ∃ ev, r = .returned ev ∧ Two1 PS B q v ev w' ∧ Below B w w' := by
  obtain ⟨G, h1, h2⟩ := h
  have hr : v.replace tmpB da m0 m1 m2 m3 = ((161, 1), v) := by unfold Vs.replace; rw [if_pos rfl]
  have := crepl_c C G q v tmpB da m0 m1 m2 m3 w kk h1 hv hk hd
  rw [hr] at this
  refine this.mono ?_
  rintro r w' ⟨ev, rfl, hdg⟩
  obtain ⟨G', g1, g2⟩ := (Bh.refl h1).edg hdg
  refine ⟨ev, rfl, ⟨G', g1.vol, fun k hk => ?_, g2.low hB⟩, g1.kept.below h2 hB⟩
  rcases g1.sub k hk with h' | h'
  · exact h2 k h'
  · omega
theorem rep_second (C : PC PS) (B q : Nat) (v : Vs) (nm da : ByteArray) (hbad : okName nm = false) (m0 m1 m2 m3 : Int) (ev : Value) (w : World) (kk : Nat) (h : Two1 PS B q v ev w) (hB : B ≤ w.heap.size) (hv : Vf v kk) (hk : kk + nP da + 8 < 2097151) (hd : da.size ≤ 140737488355328) :
    Calls Try.prog 8 #[.pointer (some ⟨q, 0, none⟩), .string nm, .string da, .agg #[.int .i64 m0, .int .i64 m1, .int .i64 m2, .int .i64 m3]] w fun r w' => ∃ ev2, r = .returned ev2 ∧ ErrIs w' B replB tmpB 161 ev ∧ ErrIs w' B replB nm 32 ev2 ∧ Vol PS B q v w' ∧ Below B w w' := by
  obtain ⟨G, h1, h2, h3⟩ := h
  have hr : v.replace nm da m0 m1 m2 m3 = ((32, 1), v) := by unfold Vs.replace; rw [if_neg (bad_not_tmp hbad), if_pos hbad]
  have := crepl_c C G q v nm da m0 m1 m2 m3 w kk h1 hv hk hd
  rw [hr] at this
  refine this.mono ?_
  rintro r w' ⟨ev2, rfl, hdg⟩
  obtain ⟨G', g1, g2⟩ := (Bh.refl h1).edg hdg
  refine ⟨ev2, rfl, (h3.kept g1.kept (fun k hk => .inr hk) g1.sub).is, (g2.low hB).is, ⟨G', g1.vol, fun k hk => ?_⟩, g1.kept.below h2 hB⟩
  rcases g1.sub k hk with h' | h'
  · exact h2 k h'
  · omega
set_option maxHeartbeats 8000000 in
theorem reserved_w (C : PC PS) (c : Int) (fv : Value) (l : List Fil) (nm : ByteArray) (m0 m1 m2 m3 : Int) (da : ByteArray) (off : Bool) (w : World)
    (hf : RowF w fv l) (hl : 3 * l.length ≤ 1048576) (hz : sizeF l ≤ 1048576) (hda : da.size ≤ 1048576) (hnm : nm.size ≤ 1048576) :
    Calls Try.prog 3 #[.int .i64 c, fv, .agg #[.string nm, .int .i64 m0, .int .i64 m1, .int .i64 m2, .int .i64 m3, .string da], .bool off] w fun e w' => e = .returned (.bool true) ∧ Below w.heap.size w w' := by
  obtain ⟨X, hX⟩ : ∃ X, X = xBoxR nm m0 m1 m2 m3 da := ⟨_, rfl⟩
  have hbA : Below w.heap.size w (w.alloc X) := (Below.refl _ w).alloc (Nat.le_refl _) X
  have hsA : (w.alloc X).heap.size = w.heap.size + 1 := by simp
  have hfA := hf.on hbA
  obtain ⟨fa, fc, hfv⟩ := formR hf
  by_cases hcc : c < 0 ∨ 1073741824 < c
  case pos =>
    have HSC : Hid (Calls Try.prog 4 #[.int .i64 c, fv] (w.alloc X) fun e w' => e = .returned (.pointer none) ∧ Below w.heap.size w w') := by
      refine (scene_no C c fv l (w.alloc X) hcc hfA).mono ?_
      rintro e w' ⟨rfl, hb⟩
      exact ⟨rfl, hbA.trans (hb.mono (by omega))⟩
    have HG : Hid (∀ W, Calls Try.prog 5 #[.int .i64 c] W fun e w' => e = .returned (.bool false) ∧ w' = W) := fun W => by
      refine (good_c c W).mono ?_
      rintro e w' ⟨rfl, rfl⟩
      exact ⟨by rw [decide_eq_false (by omega)], rfl⟩
    subst hfv
    unfold xBoxR at hX
    subst hX
    clear hf hfA hcc hbA hsA
    go_enter Try.func3, Try.ntmps3
    go_wp2_with (first
      | (go_at_call 4; refine HSC.out.mono ?_; rintro e w1 ⟨rfl, hb1⟩)
      | (go_at_call 5; refine (HG.out _).mono ?_; rintro e w2 ⟨rfl, hw2⟩; subst w2))
    go_ret
    exact ⟨rfl, hb1⟩
  case neg =>
    obtain ⟨cn, rfl⟩ := Int.eq_ofNat_of_zero_le (show 0 ≤ c by omega)
    have hcn : cn ≤ 1073741824 := by omega
    obtain ⟨s, L, hS⟩ := is_scene cn hcn l (by omega)
    have hVF := Vf.scene cn hcn l (by omega)
    rw [hS.eq] at hVF
    have hnP : nP da ≤ 2049 := by unfold nP; omega
    obtain ⟨B, hBe⟩ : ∃ B, B = w.heap.size + 1 := ⟨_, rfl⟩
    have HSC : Hid (Calls Try.prog 4 #[.int .i64 (cn : Int), fv] (w.alloc X) fun e w' => ∃ q, e = .returned (.pointer (some ⟨q, 0, none⟩)) ∧ Vol PS B q ⟨s, [], 0, false, 0⟩ w' ∧ Below B (w.alloc X) w') := by
      have := scene_c C cn fv l (w.alloc X) hcn hfA (by omega) (fun x hx => by have : x.2.2.size ≤ sizeF l := size_memR hx; omega)
      rw [hS.eq, hsA, ← hBe] at this
      exact this
    have HAN : Hid (∀ q W, Vol PS B q ⟨s, [], 0, false, 0⟩ W → Below B (w.alloc X) W → Calls Try.prog 6 #[.pointer (some ⟨q, 0, none⟩), .slice none 0 0] W fun e w' => e = .returned (.tuple #[]) ∧ Vol PS B q ⟨s, [], 0, false, 0⟩ w' ∧ Below B W w') := fun q W hL hb => vol_arm C B q _ [] (.slice none 0 0) W W hL (by have := hb.size; omega) (Below.refl _ _) (.inl ⟨rfl, _, _, rfl⟩) (fun h => absurd rfl h) (by simp)
    have HA2 : Hid (∀ q W, Vol PS B q ⟨s, [], 0, false, 0⟩ W → Below B (w.alloc X) W → Calls Try.prog 6 #[.pointer (some ⟨q, 0, none⟩), .slice (some ⟨W.heap.size, 0, none⟩) 1 1] (W.alloc (.cells #[.int .i64 1, .int .i64 3, .int .i64 0] 32)) fun e w' => e = .returned (.tuple #[]) ∧ Vol PS B q ⟨s, [⟨1, 3, 0⟩], 0, false, 0⟩ w' ∧ Below B W w') := fun q W hL hb => by
      have hbA2 : Below W.heap.size W (W.alloc (.cells #[.int .i64 1, .int .i64 3, .int .i64 0] 32)) := (Below.refl _ W).alloc (Nat.le_refl _) _
      refine vol_arm C B q _ [⟨1, 3, 0⟩] _ W _ hL (by have := hb.size; omega) hbA2 (.inr ⟨W.heap.size, 0, 1, rfl, by simp, fun i f hi => ?_⟩) (fun _ b hb => by simp only [Value.ownBlock, Option.some.injEq] at hb; omega) (by simp)
      have hn := heap_alloc_new W (.cells #[.int .i64 1, .int .i64 3, .int .i64 0] 32)
      match i, hi with
      | 0, hi =>
        simp at hi; subst hi
        refine ⟨?_, ?_, ?_⟩ <;> (rw [Lib.cell_of_heap hn]; rfl)
      | i + 1, hi => simp at hi
    have hsd : (⟨s, [⟨1, 3, 0⟩], 0, false, 0⟩ : Vs).syncDir.2 = ⟨s, [⟨1, 3, 0⟩], 1, true, 0⟩ := by
      unfold Vs.syncDir
      have hm : (⟨s, [⟨1, 3, 0⟩], 0, false, 0⟩ : Vs).met = (41, ⟨s, [⟨1, 3, 0⟩], 1, true, 0⟩) := by
        unfold Vs.met Vs.strikes hit Vs.cut; simp
      rw [hm, if_pos (show (41 : Nat) ≠ 0 by decide)]
    have hVFo : Vf (⟨s, [⟨1, 3, 0⟩], 1, true, 0⟩ : Vs) (3 * l.length + 2) := by
      have := (hVF.arm [⟨1, 3, 0⟩]).syncDir
      rw [← hsd]; exact this.mono (by omega)
    have HSD : Hid (∀ q W, Vol PS B q ⟨s, [⟨1, 3, 0⟩], 0, false, 0⟩ W → Below B (w.alloc X) W → Calls Try.prog 7 #[.pointer (some ⟨q, 0, none⟩)] W fun e w' => ∃ ev, e = .returned ev ∧ Vol PS B q ⟨s, [⟨1, 3, 0⟩], 1, true, 0⟩ w' ∧ Below B W w') := fun q W hV hb => by
      obtain ⟨G, g1, g2⟩ := hV
      refine (fSyncDir_c C G q _ W g1 hVF.wf (by show 0 ≤ _; omega)).mono ?_
      rintro e w' ⟨ev, rfl, _, hd⟩
      rw [hsd] at hd
      obtain ⟨a1, a2⟩ := Vol.did g2 (by have := hb.size; omega) hd
      exact ⟨ev, rfl, a1, a2⟩
    obtain ⟨V, hV⟩ : ∃ V : Vs, V = if off = true then ⟨s, [⟨1, 3, 0⟩], 1, true, 0⟩ else ⟨s, [], 0, false, 0⟩ := ⟨_, rfl⟩
    have hVV : Vf V (3 * l.length + 2) := by
      rw [hV]; split
      · exact hVFo
      · exact hVF.mono (by omega)
    have hVc : V.cnt = (if off = true then 1 else 0) ∧ V.off = off := by
      rw [hV]; cases off <;> exact ⟨rfl, rfl⟩
    obtain ⟨bad, hbd⟩ : ∃ bad, bad = if okName nm = true then nm ++ ⟨#[47]⟩ else nm := ⟨_, rfl⟩
    have hbok : okName bad = false := by
      rw [hbd]; split
      · exact slash_bad nm
      · rename_i h; simpa using h
    have HR1 : Hid (∀ q W, Vol PS B q V W → Below B (w.alloc X) W → Calls Try.prog 8 #[.pointer (some ⟨q, 0, none⟩), .string ⟨#[97, 114, 46, 116, 109, 112, 126]⟩, .string da, .agg #[.int .i64 m0, .int .i64 m1, .int .i64 m2, .int .i64 m3]] W fun r w' => ∃ ev, r = .returned ev ∧ Two1 PS B q V ev w' ∧ Below B W w') := fun q W hL hb => rep_first C B q V da m0 m1 m2 m3 W _ hL (by have := hb.size; omega) hVV (by omega) (by omega)
    have HR2 : Hid (∀ q ev W, Two1 PS B q V ev W → Below B (w.alloc X) W → Calls Try.prog 8 #[.pointer (some ⟨q, 0, none⟩), .string bad, .string da, .agg #[.int .i64 m0, .int .i64 m1, .int .i64 m2, .int .i64 m3]] W fun r w' => ∃ ev2, r = .returned ev2 ∧ ErrIs w' B replB tmpB 161 ev ∧ ErrIs w' B replB bad 32 ev2 ∧ Vol PS B q V w' ∧ Below B W w') := fun q ev W hL hb => rep_second C B q V bad da hbok m0 m1 m2 m3 ev W _ hL (by have := hb.size; omega) hVV (by omega) (by omega)
    have HFN : Hid (∀ W, Calls Try.prog 9 #[.string nm] W fun e w' => e = .returned (.bool (okName nm)) ∧ w' = W) := fun W => lawName_c nm W (by omega)
    have HT1 : Hid (∀ W ev, ErrIs W B replB tmpB 161 ev → Calls Try.prog 10 #[ev, .string ⟨#[114, 101, 112, 108, 97, 99, 101]⟩, .string ⟨#[97, 114, 46, 116, 109, 112, 126]⟩, .int .i64 161] W fun r w' => r = .returned (.bool true) ∧ Alike W w') := fun W ev h => told16_c B replB tmpB 161 ev W h
    have HT2 : Hid (∀ W ev, ErrIs W B replB bad 32 ev → Calls Try.prog 10 #[ev, .string ⟨#[114, 101, 112, 108, 97, 99, 101]⟩, .string bad, .int .i64 32] W fun r w' => r = .returned (.bool true) ∧ Alike W w') := fun W ev h => told16_c B replB bad 32 ev W h
    have HCA : Hid (∀ q W, Vol PS B q V W → Calls Try.prog 11 #[.pointer (some ⟨q, 0, none⟩)] W fun e w' => e = .returned (.int .i64 V.cnt) ∧ w' = W) := fun q W hL => by obtain ⟨G, g1, g2⟩ := hL; exact fCalls_c G q V W g1
    have HDW : Hid (∀ q W, Vol PS B q V W → Calls Try.prog 12 #[.pointer (some ⟨q, 0, none⟩)] W fun e w' => e = .returned (.bool V.off) ∧ w' = W) := fun q W hL => by obtain ⟨G, g1, g2⟩ := hL; exact fDown_c G q V W g1
    have HXB : Hid (∀ W, Below B (w.alloc X) W → W.cell? ⟨w.heap.size, 0, none⟩ = some (.string nm) ∧ W.cell? ⟨w.heap.size, 1, none⟩ = some (.int .i64 m0) ∧ W.cell? ⟨w.heap.size, 2, none⟩ = some (.int .i64 m1) ∧ W.cell? ⟨w.heap.size, 3, none⟩ = some (.int .i64 m2) ∧ W.cell? ⟨w.heap.size, 4, none⟩ = some (.int .i64 m3) ∧ W.cell? ⟨w.heap.size, 5, none⟩ = some (.string da)) := fun W hb => by rw [hBe, hX] at hb; exact xboxR_cells hb
    have HEND : Hid (∀ W, Below B (w.alloc X) W → Below w.heap.size w W) := fun W hb => hbA.trans (hb.mono (by omega))
    have HBB : Hid (∀ W, Below B (w.alloc X) W → B ≤ W.heap.size) := fun W hb => by have := hb.size; omega
    have HVB : Hid (∀ q W W', Vol PS B q V W → Below W.heap.size W W' → Vol PS B q V W') := fun q W W' h1 h2 => h1.below C h2
    have HVV : Hid (V = if off = true then ⟨s, [⟨1, 3, 0⟩], 1, true, 0⟩ else ⟨s, [], 0, false, 0⟩) := hV
    have HVC := hidK hVc
    have HBD := hidK hbd
    have hsz : nm.size ≤ 1048576 := hnm
    subst hfv
    have HXE : Hid (X = .cells #[.string nm, .int .i64 m0, .int .i64 m1, .int .i64 m2, .int .i64 m3, .string da] 26) := hX
    clear hf hfA hcc hsA hS hVF hnP hcn hz hl hBe hX hbA hda hsd hVFo hV hVV hVc hbd hbok
    go_enter Try.func3, Try.ntmps3
    go_upto_region 7 with (first
      | (go_at_call 4; rw [← HXE.out]; refine HSC.out.mono ?_; rintro e w1 ⟨q, rfl, hL1, hb1⟩)
      | (go_at_call 6; refine (HAN.out q _ hL1 hb1).mono ?_; rintro e w2 ⟨rfl, hL2, hb2⟩; have hB2 := hb1.trans hb2))
    clear HSC HAN hL1 hb1 hb2
    cases off
    case false =>
      have hVe : V = ⟨s, [], 0, false, 0⟩ := by have := HVV.out; simpa using this
      have hL3 : Vol PS B q V w2 := by rw [hVe]; exact hL2
      have hB3 := hB2
      have hc1 : V.cnt = 0 := by have := HVC.out.1; simpa using this
      have hc2 : V.off = false := HVC.out.2
      obtain ⟨x0, x1, x2, x3, x4, x5⟩ := HXB.out w2 hB3
      have HC2 := HCA
      rw [hc1] at HC2
      have HD2 := HDW
      rw [hc2] at HD2
      clear HCA HDW hVe hc1 hc2 HVV HVC HA2 HSD hL2 hB2
      go_upto_region 12 with (go_at_call 8; refine (HR1.out q _ hL3 hB3).mono ?_; rintro e w4 ⟨ev1, rfl, hT4, hb4⟩; have hB4 := hB3.trans hb4)
      clear x0 x1 x2 x3 x4 x5
      obtain ⟨x0, x1, x2, x3, x4, x5⟩ := HXB.out w4 hB4
      go_upto_region 14 with (go_at_call 9; refine (HFN.out _).mono ?_; rintro e w5 ⟨rfl, hw5⟩; subst w5)
      cases hk : okName nm
      all_goals
        rw [hk] at HBD
        have hbd : bad = _ := HBD.out
        simp only [Bool.false_eq_true, if_false, if_true] at hbd
        subst hbd
        clear HBD HFN hk
        go_upto_region 17 with (go_at_call 8; refine (HR2.out q ev1 _ hT4 hB4).mono ?_; rintro e w6 ⟨ev2, rfl, he1, he2, hL6, hb6⟩; have hB6 := hB4.trans hb6)
        go_upto_region 18 with (go_at_call 10; refine (HT1.out _ ev1 he1).mono ?_; rintro e w7 ⟨rfl, hA7⟩)
        go_upto_region 19 with (go_at_call 10; refine (HT2.out _ ev2 (he2.below hA7.below)).mono ?_; rintro e w8 ⟨rfl, hA8⟩)
        have hL8 := HVB.out q _ _ (HVB.out q _ _ hL6 hA7.below) hA8.below
        have hfin := HEND.out _ ((hB6.trans (hA7.below.mono (HBB.out _ hB6))).trans (hA8.below.mono (by have := hA7.below.size; have := HBB.out _ hB6; omega)))
        go_wp2_with (first
          | (go_at_call 11; refine (HC2.out q _ hL8).mono ?_; rintro e w9 ⟨rfl, hw9⟩; subst w9)
          | (go_at_call 12; refine (HD2.out q _ hL8).mono ?_; rintro e w10 ⟨rfl, hw10⟩; subst w10))
        go_ret
        exact ⟨rfl, hfin⟩
    case true =>
      have hVe : V = ⟨s, [⟨1, 3, 0⟩], 1, true, 0⟩ := by have := HVV.out; simpa using this
      go_upto_region 11 with (first
        | (go_at_call 6; refine (HA2.out q w2 hL2 hB2).mono ?_; rintro e w3 ⟨rfl, hLa, hba⟩; have hBa := hB2.trans hba)
        | (go_at_call 7; refine (HSD.out q _ hLa hBa).mono ?_; rintro e wd ⟨evd, rfl, hLd, hbd0⟩; have hB3 := hBa.trans hbd0))
      have hL3 : Vol PS B q V wd := by rw [hVe]; exact hLd
      have hc1 : V.cnt = 1 := by have := HVC.out.1; simpa using this
      have hc2 : V.off = true := HVC.out.2
      obtain ⟨x0, x1, x2, x3, x4, x5⟩ := HXB.out wd hB3
      have HC2 := HCA
      rw [hc1] at HC2
      have HD2 := HDW
      rw [hc2] at HD2
      clear HCA HDW hVe hc1 hc2 HVV HVC HA2 HSD hL2 hB2 hLa hba hBa hLd hbd0
      go_upto_region 12 with (go_at_call 8; refine (HR1.out q _ hL3 hB3).mono ?_; rintro e w4 ⟨ev1, rfl, hT4, hb4⟩; have hB4 := hB3.trans hb4)
      clear x0 x1 x2 x3 x4 x5
      obtain ⟨x0, x1, x2, x3, x4, x5⟩ := HXB.out w4 hB4
      go_upto_region 14 with (go_at_call 9; refine (HFN.out _).mono ?_; rintro e w5 ⟨rfl, hw5⟩; subst w5)
      cases hk : okName nm
      all_goals
        rw [hk] at HBD
        have hbd : bad = _ := HBD.out
        simp only [Bool.false_eq_true, if_false, if_true] at hbd
        subst hbd
        clear HBD HFN hk
        go_upto_region 17 with (go_at_call 8; refine (HR2.out q ev1 _ hT4 hB4).mono ?_; rintro e w6 ⟨ev2, rfl, he1, he2, hL6, hb6⟩; have hB6 := hB4.trans hb6)
        go_upto_region 18 with (go_at_call 10; refine (HT1.out _ ev1 he1).mono ?_; rintro e w7 ⟨rfl, hA7⟩)
        go_upto_region 19 with (go_at_call 10; refine (HT2.out _ ev2 (he2.below hA7.below)).mono ?_; rintro e w8 ⟨rfl, hA8⟩)
        have hL8 := HVB.out q _ _ (HVB.out q _ _ hL6 hA7.below) hA8.below
        have hfin := HEND.out _ ((hB6.trans (hA7.below.mono (HBB.out _ hB6))).trans (hA8.below.mono (by have := hA7.below.size; have := HBB.out _ hB6; omega)))
        go_wp2_with (first
          | (go_at_call 11; refine (HC2.out q _ hL8).mono ?_; rintro e w9 ⟨rfl, hw9⟩; subst w9)
          | (go_at_call 12; refine (HD2.out q _ hL8).mono ?_; rintro e w10 ⟨rfl, hw10⟩; subst w10))
        go_ret
        exact ⟨rfl, hfin⟩
end Go.Proofs.Ytbbblncoicjacaa
