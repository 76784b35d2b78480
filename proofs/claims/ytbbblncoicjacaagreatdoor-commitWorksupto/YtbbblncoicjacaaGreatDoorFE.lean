
-- The statements' scene: a volume with files, everything durable.
import Derived.Test.YtbbblncoicjacaaGreatDoorFA
import Derived.Test.YtbbblncoicjacaaGreatDoorKF
import Derived.Test.YtbbblncoicjacaaGreatDoorU15
import Derived.Deep.RegionWith
namespace Go.Proofs.YtbbblncoicjacaaGreatDoor
open Go.RowKit
set_option linter.unusedVariables false
set_option maxRecDepth 100000
variable {PS : (Nat → Prop) → Nat → St → World → Prop}
def Vs.hdl (v : Vs) (x : Fil) : Hd := ⟨x.1, (v.create x.1 x.2.1.1 x.2.1.2.1 x.2.1.2.2.1 x.2.1.2.2.2).1.1, v.round, false⟩
def Vs.crF (v : Vs) (x : Fil) : (Nat × Nat) × Vs := v.create x.1 x.2.1.1 x.2.1.2.1 x.2.1.2.2.1 x.2.1.2.2.2
/-- A file is put there. -/
def Vs.putF (v : Vs) (x : Fil) : Vs := if (v.crF x).1.2 ≠ 0 then (v.crF x).2 else (((v.crF x).2.write (v.hdl x) x.2.2).2.sync (v.hdl x)).2
def Vs.all (v : Vs) (l : List Fil) : Vs := l.foldl Vs.putF v
def Vs.scene (c : Nat) (l : List Fil) : Vs := ((Vs.new c).all l).syncDir.2.arm []
theorem all_take (v : Vs) (l : List Fil) (k : Nat) (x : Fil) (h : l[k]? = some x) : v.all (l.take (k + 1)) = (v.all (l.take k)).putF x := by
  unfold Vs.all
  rw [List.take_add_one, h, List.foldl_append]; rfl
theorem Vf.putF {v : Vs} {k : Nat} (h : Vf v k) (hk : k < 2097151) (x : Fil) : Vf (v.putF x) (k + 3) := by
  have hc : Vf (v.crF x).2 (k + 1) := h.create hk _ _ _ _ _
  unfold Vs.putF
  split
  · exact hc.mono (by omega)
  · exact ((hc.write _ _).sync _).mono (by omega)
theorem Vf.all {v : Vs} {k : Nat} (h : Vf v k) (l : List Fil) (hk : k + 3 * l.length < 2097151) : Vf (v.all l) (k + 3 * l.length) := by
  induction l generalizing v k with
  | nil => exact h
  | cons x r ih =>
    rw [List.length_cons] at hk ⊢
    have := ih (h.putF (by omega) x) (by omega)
    exact this.mono (by omega)
theorem Vf.scene (c : Nat) (hc : c ≤ 1073741824) (l : List Fil) (hk : 3 * l.length + 1 < 2097151) : Vf (Vs.scene c l) (3 * l.length + 1) := by
  have h := (Vf.new c hc).all l (by omega)
  exact (h.syncDir.arm []).mono (by omega)
set_option maxHeartbeats 4000000 in
theorem scene_no (C : PC PS) (c : Int) (fv : Value) (l : List Fil) (w : World) (hc : c < 0 ∨ 1073741824 < c) (hf : RowF w fv l) : Calls Tryz.prog 4 #[.int .i64 c, fv] w fun e w' => e = .returned (.pointer none) ∧ Below w.heap.size w w' := by
  have HN : Hid (Calls Tryz.prog 19 #[.int .i64 c] w fun e w' => e = .returned (.pointer none) ∧ Below w.heap.size w w') := fNew_no C c w hc
  obtain ⟨ao, cap, rfl, _, _⟩ := hf.form
  clear hc hf
  go_enter Tryz.func4, Tryz.ntmps4
  go_wp2_with (go_at_call 19; refine HN.out.mono ?_; rintro e w1 ⟨rfl, hb1⟩)
  go_ret
  exact ⟨rfl, hb1⟩
/-- The volume, its memory behind B. -/
def Vol (PS : (Nat → Prop) → Nat → St → World → Prop) (B q : Nat) (v : Vs) (w : World) : Prop := ∃ G, PV PS G q v w ∧ ∀ k, G k → B ≤ k
theorem Vol.below (C : PC PS) {B q : Nat} {v : Vs} {w w' : World} (h : Vol PS B q v w) (hb : Below w.heap.size w w') : Vol PS B q v w' := by
  obtain ⟨G, h1, h2⟩ := h
  exact ⟨G, h1.below C hb, h2⟩
theorem Vol.did {B q : Nat} {v' : Vs} {w w' : World} {G : Nat → Prop} (hG : ∀ k, G k → B ≤ k) (hB : B ≤ w.heap.size) (h : VDid PS G q v' w w') : Vol PS B q v' w' ∧ Below B w w' := by
  refine ⟨⟨_, h.1, fun k hk => ?_⟩, h.2.below hG hB⟩
  rcases hk with hk | hk
  · exact hG k hk
  · omega
set_option maxHeartbeats 8000000 in
theorem scene_c (C : PC PS) (c : Nat) (fv : Value) (l : List Fil) (w : World) (hc : c ≤ 1073741824) (hf : RowF w fv l) (hl : 3 * l.length ≤ 1048600) (hz : ∀ x ∈ l, x.2.2.size ≤ 140737488355328) : Calls Tryz.prog 4 #[.int .i64 c, fv] w fun e w' => ∃ q, e = .returned (.pointer (some ⟨q, 0, none⟩)) ∧ Vol PS w.heap.size q (Vs.scene c l) w' ∧ Below w.heap.size w w' := by
  have HN : Hid (Calls Tryz.prog 19 #[.int .i64 (c : Int)] w fun e w' => ∃ q, e = .returned (.pointer (some ⟨q, 0, none⟩)) ∧ Vol PS w.heap.size q (Vs.new c) w' ∧ Below w.heap.size w w') := by
    refine (fNew_c C c w hc).mono ?_
    rintro e w' ⟨q, rfl, h1, h2⟩
    exact ⟨q, rfl, ⟨_, h1, fun k hk => hk.1⟩, h2⟩
  have HVF : Hid (∀ k, k ≤ l.length → Vf ((Vs.new c).all (l.take k)) (3 * k)) := fun k hk => by
    have hln : (l.take k).length = k := by rw [List.length_take]; omega
    have := (Vf.new c hc).all (l.take k) (by omega)
    rw [hln] at this
    exact this.mono (by omega)
  have HCR : Hid (∀ q v kk n m0 m1 m2 m3 W, Vol PS w.heap.size q v W → w.heap.size ≤ W.heap.size → Vf v kk → kk < 2097000 → Calls Tryz.prog 20 #[.pointer (some ⟨q, 0, none⟩), .string n, .agg #[.int .i64 m0, .int .i64 m1, .int .i64 m2, .int .i64 m3]] W fun e w' => ∃ hv ev, e = .returned (.tuple #[hv, ev]) ∧ Below w.heap.size W w' ∧ (((v.create n m0 m1 m2 m3).1.2 ≠ 0 ∧ hv = .pointer none ∧ Vol PS w.heap.size q (v.create n m0 m1 m2 m3).2 w') ∨ ((v.create n m0 m1 m2 m3).1.2 = 0 ∧ ∃ b G, hv = .pointer (some ⟨b, 0, none⟩) ∧ Fl PS G q (v.create n m0 m1 m2 m3).2 b ⟨n, (v.create n m0 m1 m2 m3).1.1, v.round, false⟩ w' G w' ∧ w.heap.size ≤ b ∧ ∀ k, G k → w.heap.size ≤ k))) := fun q v kk n m0 m1 m2 m3 W hV hB hv hk => by
    obtain ⟨G, g1, g2⟩ := hV
    refine (fCreate_c C G q v n m0 m1 m2 m3 W g1 hv.wf (by have := hv.cnt; omega)).mono ?_
    rintro e w' ⟨hvv, ev, rfl, he, hk1, hcase⟩
    refine ⟨hvv, ev, rfl, hk1.below g2 hB, ?_⟩
    rcases hcase with ⟨h1, h2, h3⟩ | ⟨h1, b, G', h2, h3, h4, h5, h6, h7, h8⟩
    · refine .inl ⟨h1, h2, _, h3, fun k hk => ?_⟩
      rcases hk with hk | hk
      · exact g2 k hk
      · omega
    · refine .inr ⟨h1, b, G', h2, ⟨h4, fun k hk => .inl hk, fun k hk => hk, h7, h3, ⟨rfl, rfl, rfl, Nat.le_refl _, fun _ _ _ => rfl⟩⟩, by omega, fun k hk => ?_⟩
      rcases h5 k hk with h' | h'
      · exact g2 k h'
      · omega
  have HWR : Hid (∀ q v b x G W kk d, Fl PS G q v b x W G W → w.heap.size ≤ b → w.heap.size ≤ W.heap.size → (∀ k, G k → w.heap.size ≤ k) → Vf v kk → kk < 2097000 → d.size ≤ 140737488355328 → Calls Tryz.prog 21 #[.pointer (some ⟨b, 0, none⟩), .string d] W fun e w' => ∃ n ev, e = .returned (.tuple #[.int .i64 n, ev]) ∧ Below w.heap.size W w' ∧ ∃ G2, Fl PS G2 q (v.write x d).2 b x w' G2 w' ∧ ∀ k, G2 k → w.heap.size ≤ k) := fun q v b x G W kk d hF hb hB hG hv hk hd => by
    refine (sWrite_c C G q v b x d W hF.vol hF.file hF.out hv.wf (by have := hv.cnt; omega) hd).mono ?_
    rintro e w' ⟨ev, rfl, hdd⟩
    have hkp := hdd.weak.2.2
    obtain ⟨_, G2, h2⟩ := hF.next hdd hF.file.lt
    refine ⟨_, ev, rfl, hkp.below hG hB, G2, ⟨h2.vol, fun k hk => .inl hk, fun k hk => hk, h2.out, h2.file, ⟨rfl, rfl, rfl, Nat.le_refl _, fun _ _ _ => rfl⟩⟩, fun k hk => ?_⟩
    rcases h2.sub k hk with h' | h'
    · exact hG k h'
    · omega
  have HSY : Hid (∀ q v b x G W kk, Fl PS G q v b x W G W → w.heap.size ≤ b → w.heap.size ≤ W.heap.size → (∀ k, G k → w.heap.size ≤ k) → Vf v kk → kk < 2097000 → Calls Tryz.prog 22 #[.pointer (some ⟨b, 0, none⟩)] W fun e w' => ∃ ev, e = .returned ev ∧ Below w.heap.size W w' ∧ ∃ G2, Fl PS G2 q (v.sync x).2 b x w' G2 w' ∧ ∀ k, G2 k → w.heap.size ≤ k) := fun q v b x G W kk hF hb hB hG hv hk => by
    refine (sSync_c C G q v b x W hF.vol hF.file hF.out hv.wf (by have := hv.cnt; omega)).mono ?_
    rintro e w' ⟨ev, rfl, hdd⟩
    have hkp := hdd.weak.2.2
    obtain ⟨_, G2, h2⟩ := hF.next hdd hF.file.lt
    refine ⟨ev, rfl, hkp.below hG hB, G2, ⟨h2.vol, fun k hk => .inl hk, fun k hk => hk, h2.out, h2.file, ⟨rfl, rfl, rfl, Nat.le_refl _, fun _ _ _ => rfl⟩⟩, fun k hk => ?_⟩
    rcases h2.sub k hk with h' | h'
    · exact hG k h'
    · omega
  have HCL : Hid (∀ q v b x G W, Fl PS G q v b x W G W → w.heap.size ≤ b → w.heap.size ≤ W.heap.size → (∀ k, G k → w.heap.size ≤ k) → Calls Tryz.prog 23 #[.pointer (some ⟨b, 0, none⟩)] W fun e w' => ∃ ev, e = .returned ev ∧ Below w.heap.size W w' ∧ Vol PS w.heap.size q v w') := fun q v b x G W hF hb hB hG => by
    refine (hClose_c G q v b x W hF.vol hF.file).mono ?_
    rintro e w' ⟨ev, rfl, _, _, hkp⟩
    refine ⟨ev, rfl, hkp.below (fun k hk => by omega) hB, G, hF.vol.same C hkp.size (fun k hk hl => hkp.block k hl (fun e => hF.out (e ▸ hk))), hG⟩
  have HSD : Hid (∀ q v kk W, Vol PS w.heap.size q v W → w.heap.size ≤ W.heap.size → Vf v kk → kk < 2097000 → Calls Tryz.prog 24 #[.pointer (some ⟨q, 0, none⟩)] W fun e w' => ∃ ev, e = .returned ev ∧ Below w.heap.size W w' ∧ Vol PS w.heap.size q v.syncDir.2 w') := fun q v kk W hV hB hv hk => by
    obtain ⟨G, g1, g2⟩ := hV
    refine (fSyncDir_c C G q v W g1 hv.wf (by have := hv.cnt; omega)).mono ?_
    rintro e w' ⟨ev, rfl, _, hd⟩
    obtain ⟨h1, h2⟩ := Vol.did g2 hB hd
    exact ⟨ev, rfl, h2, h1⟩
  have HAR : Hid (∀ q v W, Vol PS w.heap.size q v W → w.heap.size ≤ W.heap.size → Calls Tryz.prog 9 #[.pointer (some ⟨q, 0, none⟩), .slice none 0 0] W fun e w' => e = .returned (.tuple #[]) ∧ Below w.heap.size W w' ∧ Vol PS w.heap.size q (v.arm []) w') := fun q v W hV hB => by
    obtain ⟨G, g1, g2⟩ := hV
    refine (fArm_c C G q v [] (.slice none 0 0) W g1 (.inl ⟨rfl, _, _, rfl⟩) (fun h => absurd rfl h) (by simp)).mono ?_
    rintro e w' ⟨rfl, hd⟩
    obtain ⟨h1, h2⟩ := Vol.did g2 hB hd
    exact ⟨rfl, h2, h1⟩
  have HV1 : Hid (Vf ((Vs.new c).all l) (3 * l.length)) := (Vf.new c hc).all l (by omega) |>.mono (by omega)
  have HSC : Hid (Vs.scene c l = ((Vs.new c).all l).syncDir.2.arm []) := rfl
  obtain ⟨ao, cap, q1, _, _⟩ := hf.form
  obtain ⟨n, hnn⟩ : ∃ n, n = l.length := ⟨_, rfl⟩
  have HNN := hidK hnn
  have HQ := hidK hf
  have HZ : Hid (∀ x ∈ l, x.2.2.size ≤ 140737488355328) := hz
  subst q1
  rw [← hnn] at hl HQ HV1
  rw [HSC.out]
  rw [← hnn]
  clear hf hnn hz HSC hc
  go_enter Tryz.func4, Tryz.ntmps4
  go_wp2_with (go_at_call 19; refine HN.out.mono ?_; rintro e w1 ⟨q, rfl, hv1, hb1⟩)
  have HP0 : Hid (Vol PS w.heap.size q (Vs.new c) w1 ∧ Below w.heap.size w w1) := ⟨hv1, hb1⟩
  clear hv1 hb1 HN
  go_loopw [6] (fun i wr => ∃ k : Nat, i = .int .i64 k ∧ k ≤ n ∧ Vol PS w.heap.size q ((Vs.new c).all (l.take k)) wr ∧ Below w.heap.size w wr) (fun i _ => n - (intOf i).toNat)
  case atStart => exact ⟨0, rfl, Nat.zero_le _, HP0.out.1, HP0.out.2⟩
  case round =>
    obtain ⟨k, rfl, hkn, hV, hB⟩ := hrel
    have hbs := hB.size
    by_cases hk : k < n
    · have kI : (k : Int) < (n : Int) := by omega
      have k0 : (0 : Int) ≤ (k : Int) := by omega
      have hkl : k < l.length := by have := HNN.out; omega
      obtain ⟨x, hx⟩ : ∃ x, l[k]? = some x := ⟨_, List.getElem?_eq_getElem hkl⟩
      have HAT := hidK (all_take (Vs.new c) l k x hx)
      have hVF := HVF.out k (by omega)
      have hxz := HZ.out x (List.mem_of_getElem? hx)
      obtain ⟨v, hv⟩ : ∃ v, v = (Vs.new c).all (l.take k) := ⟨_, rfl⟩
      rw [← hv] at hVF hV HAT
      obtain ⟨nn, ⟨m0, m1, m2, m3⟩, dt⟩ := x
      simp only at hxz
      obtain ⟨b1, o1, p1, e1, d0, d1, d2, d3, d4, d5⟩ := HQ.out.fil hx
      injection e1 with e1 e1b e1c
      subst e1
      have hb1l := World.block_lt_of_cell? _ _ d0
      have HD5 : Hid (∀ W, Below w.heap.size w W → W.cell? ⟨b1, o1 + k * 6 + 5, none⟩ = some (.string dt)) := fun W hb => (hb.cell (p := ⟨b1, o1 + k * 6 + 5, none⟩) hb1l).trans d5
      replace d0 := (hB.cell (p := ⟨b1, o1 + k * 6, none⟩) hb1l).trans d0
      replace d1 := (hB.cell (p := ⟨b1, o1 + k * 6 + 1, none⟩) hb1l).trans d1
      replace d2 := (hB.cell (p := ⟨b1, o1 + k * 6 + 2, none⟩) hb1l).trans d2
      replace d3 := (hB.cell (p := ⟨b1, o1 + k * 6 + 3, none⟩) hb1l).trans d3
      replace d4 := (hB.cell (p := ⟨b1, o1 + k * 6 + 4, none⟩) hb1l).trans d4
      clear d5 hb1l
      have HCR1 : Hid (∀ W, Alike wr W → Calls Tryz.prog 20 #[.pointer (some ⟨q, 0, none⟩), .string nn, .agg #[.int .i64 m0, .int .i64 m1, .int .i64 m2, .int .i64 m3]] W fun e w' => ∃ hv ev, e = .returned (.tuple #[hv, ev]) ∧ Below w.heap.size wr w' ∧ (((v.create nn m0 m1 m2 m3).1.2 ≠ 0 ∧ hv = .pointer none ∧ Vol PS w.heap.size q (v.create nn m0 m1 m2 m3).2 w') ∨ ((v.create nn m0 m1 m2 m3).1.2 = 0 ∧ ∃ b G, hv = .pointer (some ⟨b, 0, none⟩) ∧ Fl PS G q (v.create nn m0 m1 m2 m3).2 b ⟨nn, (v.create nn m0 m1 m2 m3).1.1, v.round, false⟩ w' G w' ∧ w.heap.size ≤ b ∧ ∀ k, G k → w.heap.size ≤ k))) := fun W hA => by
        have hw := hA.below
        refine (HCR.out q v (3 * k) nn m0 m1 m2 m3 W (hV.below C hw) (Nat.le_trans hbs hw.size) hVF (by omega)).mono ?_
        rintro e w' ⟨hvv, ev, rfl, h1, h2⟩
        exact ⟨hvv, ev, rfl, (hw.mono hbs).trans h1, h2⟩
      have HXZ : Hid (dt.size ≤ 140737488355328 ∧ Vf v (3 * k) ∧ w.heap.size ≤ wr.heap.size ∧ 3 * n ≤ 1048600 ∧ Below w.heap.size w wr) := ⟨hxz, hVF, hbs, hl, hB⟩
      clear hx HQ hkl e1b e1c hv hxz hV HSD HAR HV1 HP0 HVF HZ HCR hB hbs hVF
      by_cases hec : (v.create nn m0 m1 m2 m3).1.2 = 0
      case neg =>
        have HPF : Hid (v.putF (nn, (m0, m1, m2, m3), dt) = (v.create nn m0 m1 m2 m3).2) := by
          show _ = _
          unfold Vs.putF
          rw [if_pos (show (v.crF (nn, (m0, m1, m2, m3), dt)).1.2 ≠ 0 from hec)]; rfl
        have HC2 : Hid (∀ W, Alike wr W → Calls Tryz.prog 20 #[.pointer (some ⟨q, 0, none⟩), .string nn, .agg #[.int .i64 m0, .int .i64 m1, .int .i64 m2, .int .i64 m3]] W fun e w' => ∃ ev, e = .returned (.tuple #[.pointer none, ev]) ∧ Below w.heap.size wr w' ∧ Vol PS w.heap.size q (v.create nn m0 m1 m2 m3).2 w') := fun W hA => by
          refine (HCR1.out W hA).mono ?_
          rintro e w' ⟨hvv, ev, rfl, h1, h2⟩
          rcases h2 with ⟨_, h3, h4⟩ | ⟨h3, _⟩
          · subst h3; exact ⟨ev, rfl, h1, h4⟩
          · exact absurd h3 hec
        clear HCR1 hec
        go_wp2_with fail
        go_region_with (go_at_call 20; refine (HC2.out _ (Alike.mk ?_ ?_ ?_ ?_)).mono ?_; rfl; rfl; rfl; rfl; rintro e w2 ⟨ev, rfl, hb2, hv2⟩)
        all_goals
          go_wp2
          refine ⟨⟨k + 1, by go_num, by omega, ?_, HXZ.out.2.2.2.2.trans (hb2.trans (by go_grown))⟩, by simp [intOf]; omega⟩
          rw [HAT.out, HPF.out]
          exact hv2.below C (by go_grown)
      case pos =>
        obtain ⟨X, hX⟩ : ∃ X : Hd, X = ⟨nn, (v.create nn m0 m1 m2 m3).1.1, v.round, false⟩ := ⟨_, rfl⟩
        obtain ⟨v1, hv1e⟩ : ∃ v1, v1 = (v.create nn m0 m1 m2 m3).2 := ⟨_, rfl⟩
        have HPF : Hid (v.putF (nn, (m0, m1, m2, m3), dt) = ((v1.write X dt).2.sync X).2) := by
          show _ = _
          unfold Vs.putF
          rw [if_neg (show ¬ ((v.crF (nn, (m0, m1, m2, m3), dt)).1.2 ≠ 0) from fun h => h hec), hX, hv1e]; rfl
        have hVF1 : Vf v1 (3 * k + 1) := by rw [hv1e]; exact HXZ.out.2.1.create (by have := HXZ.out.2.2.2.1; omega) _ _ _ _ _
        have HW1 : Hid (Vf v1 (3 * k + 1) ∧ Vf (v1.write X dt).2 (3 * k + 2)) := ⟨hVF1, hVF1.write X dt⟩
        have HC2 : Hid (∀ W, Alike wr W → Calls Tryz.prog 20 #[.pointer (some ⟨q, 0, none⟩), .string nn, .agg #[.int .i64 m0, .int .i64 m1, .int .i64 m2, .int .i64 m3]] W fun e w' => ∃ b ev, e = .returned (.tuple #[.pointer (some ⟨b, 0, none⟩), ev]) ∧ Below w.heap.size wr w' ∧ ∃ G, Fl PS G q v1 b X w' G w' ∧ w.heap.size ≤ b ∧ ∀ k, G k → w.heap.size ≤ k) := fun W hA => by
          refine (HCR1.out W hA).mono ?_
          rintro e w' ⟨hvv, ev, rfl, h1, h2⟩
          rcases h2 with ⟨h3, _⟩ | ⟨_, b, G, h3, h4, h5, h6⟩
          · exact absurd hec h3
          · subst h3
            rw [← hX, ← hv1e] at h4
            exact ⟨b, ev, rfl, h1, G, h4, h5, h6⟩
        have HFB : Hid (∀ (W W' : World) b G, Fl PS G q v1 b X W G W → Below W.heap.size W W' → Fl PS G q v1 b X W' G W') := fun W W' b G hf hb => ⟨hf.vol.below C hb, fun k hk => .inl hk, fun k hk => hk, hf.out, hf.file.below hb, ⟨rfl, rfl, rfl, Nat.le_refl _, fun _ _ _ => rfl⟩⟩
        clear HCR1 hec hVF1 hX hv1e
        go_wp2_with fail
        go_region_with (go_at_call 20; refine (HC2.out _ (Alike.mk ?_ ?_ ?_ ?_)).mono ?_; rfl; rfl; rfl; rfl; rintro e w2 ⟨b, ev, rfl, hb2, G, hf2, hbb, hg2⟩)
        all_goals
          have hbw2 := HXZ.out.2.2.2.2.trans hb2
          have y5 := HD5.out w2 hbw2
          have y6 := HD5.out w2.drew hbw2.drew
          obtain ⟨z1, z2, z3, z4, z5⟩ := HXZ.out
          have z6 := hbw2.size
          go_wp2_with (first
            | (go_at_call 21; refine (HWR.out q v1 b X G _ (3 * k + 1) dt (HFB.out w2 _ b G hf2 (by go_grown)) hbb (by first | exact z6 | (simpa using z6)) hg2 HW1.out.1 (by omega) z1).mono ?_; rintro e w3 ⟨n3, ev3, rfl, hb3, G3, hf3, hg3⟩; have t3 : w.heap.size ≤ w3.heap.size := Nat.le_trans z6 hb3.size)
            | (go_at_call 22; refine (HSY.out q _ b X G3 w3 (3 * k + 2) hf3 hbb t3 hg3 HW1.out.2 (by omega)).mono ?_; rintro e w4 ⟨ev4, rfl, hb4, G4, hf4, hg4⟩; have t4 : w.heap.size ≤ w4.heap.size := Nat.le_trans t3 hb4.size)
            | (go_at_call 23; refine (HCL.out q _ b X G4 w4 hf4 hbb t4 hg4).mono ?_; rintro e w5 ⟨ev5, rfl, hb5, hv5⟩))
          refine ⟨⟨k + 1, by go_num, by omega, ?_, ?_⟩, by simp [intOf]; omega⟩
          · rw [HAT.out, HPF.out]; exact hv5
          · exact (((hbw2.trans (by first | exact Below.refl _ _ | go_grown)).trans hb3).trans hb4).trans hb5
    · obtain rfl : k = n := by omega
      have hall : l.take k = l := by rw [HNN.out]; exact List.take_length
      rw [hall] at hV
      have h1 := HV1.out
      go_wp2_with (first
        | (go_at_call 24; refine (HSD.out q _ _ _ hV hbs h1 (by omega)).mono ?_; rintro e w2 ⟨ev, rfl, hb2, hv2⟩; have hs2 := hb2.size)
        | (go_at_call 9; refine (HAR.out q _ _ hv2 (Nat.le_trans hbs hs2)).mono ?_; rintro e w3 ⟨rfl, hb3, hv3⟩))
      go_returns
      exact ⟨q, rfl, hv3, (hB.trans hb2).trans hb3⟩
end Go.Proofs.YtbbblncoicjacaaGreatDoor
