
-- A calm volume: what it tells of its files.
import Derived.Test.YtbbblncoicjacaaGreatDoorX2
import Derived.Test.YtbbblncoicjacaaGreatDoorKF
import Derived.Test.YtbbblncoicjacaaGreatDoorU16
namespace Go.Proofs.YtbbblncoicjacaaGreatDoor
open Go.RowKit
set_option linter.unusedVariables false
set_option maxRecDepth 100000
variable {PS : (Nat → Prop) → Nat → St → World → Prop}
def Vs.calm (v : Vs) : Prop := v.off = false ∧ v.plan = []
def Vs.ticks (v : Vs) (n : Nat) : Vs := { v with cnt := v.cnt + n }
theorem calm_met {v : Vs} (h : v.calm) : v.met = (0, v.tick) := by
  obtain ⟨h1, h2⟩ := h
  refine met_ok h1 ?_
  unfold Vs.strikes hit; rw [h2]; rfl
theorem calm_ticks {v : Vs} (h : v.calm) (n : Nat) : (v.ticks n).calm := h
theorem tick_ticks (v : Vs) (n : Nat) : (v.ticks n).tick = v.ticks (n + 1) := rfl
theorem tick_one (v : Vs) : v.tick = v.ticks 1 := rfl
theorem find_at {st : St} (hw : Wf st) (hd : DW st) {e : ByteArray × Nat} (he : e ∈ st.now) : st.find e.1 = ((e.1, lookB st.bodies e.2), (e.2, 0)) := by
  have hdn := hd.now hw
  have hp : ∀ f ∈ st.now, f.2 ≠ 0 := fun f hf => by have := (hw.led _ (now_mem hw) f hf).1; omega
  have hl := dw_leads hdn he hp
  unfold St.find
  rw [if_neg (by rw [hdn.name e he]; decide), hl, if_neg (hp e he)]; rfl
theorem read_at {st : St} (hw : Wf st) {e : ByteArray × Nat} (he : e ∈ st.now) : st.read (e.2 : Int) = ((lookB st.bodies e.2).data, 0) := by
  have ht : there st.now (e.2 : Int) = true := by unfold there; rw [List.any_eq_true]; exact ⟨e, he, by simp⟩
  obtain ⟨h1, h2⟩ := hw.led _ (now_mem hw) e he
  have hb : st.bodies[e.2 - 1]? = some (st.bodies[e.2 - 1]'(by omega)) := List.getElem?_eq_getElem _
  unfold St.read St.at_
  rw [if_pos ht, Int.toNat_natCast, hb]
  unfold lookB
  rw [hb]; rfl
theorem stat_at {v : Vs} (hc : v.calm) (hw : Wf v.st) (hd : DW v.st) {e : ByteArray × Nat} (he : e ∈ v.st.now) : v.stat e.1 = (((e.1, lookB v.st.bodies e.2), 0), v.ticks 1) := by
  unfold Vs.stat
  rw [calm_met hc, if_neg (by simp), find_at hw hd he]; rfl
theorem readf_at {v : Vs} (hc : v.calm) (hw : Wf v.st) (hd : DW v.st) {e : ByteArray × Nat} (he : e ∈ v.st.now) : v.read e.1 = (((lookB v.st.bodies e.2).data, 0), v.ticks 1) := by
  unfold Vs.read
  rw [calm_met hc, if_neg (by simp), find_at hw hd he, if_neg (by simp), read_at hw he]; rfl
set_option maxHeartbeats 4000000 in
theorem qdList_c (C : PC PS) (G : Nat → Prop) (q : Nat) (v : Vs) (w : World) (h : PV PS G q v w) (hw : Wf v.st) (hn : v.cnt ≤ 4194304) (hm : v.met.1 = 0) :
    Calls Tryz.prog 131 #[.pointer (some ⟨q, 0, none⟩)] w fun e w' => ∃ x, e = .returned (.tuple #[x, .int .i64 0]) ∧ w'.ownsRow w.heap.size 9 1 x v.st.names.length (strV v.st.names) ∧ PV PS G q v.met.2 w' ∧ Kp G w w' := by
  have HRef : Hid (Calls Tryz.prog 139 #[.pointer (some ⟨q, 0, none⟩)] w fun e w' => e = .returned (.int .i64 v.met.1) ∧ PV PS G q v.met.2 w' ∧ Kp G w w') := refusal_c C G q v w h hn
  have hs := met_st v
  have HV : Hid (∀ p m Fd w1, PVo PS G q v.met.2 w1 p m Fd → Kp G w w1 → Calls Tryz.prog 94 #[.agg #[.pointer (some ⟨p, 0, none⟩)]] w1 fun e w' => ∃ x, e = .returned (.tuple #[x, .int .i64 0]) ∧ w'.ownsRow w.heap.size 9 1 x v.st.names.length (strV v.st.names) ∧ PV PS G q v.met.2 w' ∧ Kp G w w') := fun p m Fd w1 O hk => by
    refine (vList_c C G Fd q p m v.met.2 w1 O (by rw [hs]; exact hw)).mono ?_
    rintro e w' ⟨⟨x, rfl, hx⟩, O2, k2⟩
    rw [hs] at hx
    exact ⟨x, rfl, own_mono hx hk.size, ⟨p, m, Fd, O2⟩, hk.trans k2⟩
  rw [hm] at HRef
  clear h hw hn hm hs
  go_enter Tryz.func131, Tryz.ntmps131
  go_wp2_with (first
    | (go_at_call 139; refine HRef.out.mono ?_; rintro e w1 ⟨rfl, ⟨p, m, Fd, O1⟩, hk1⟩; have c0 := O1.cell0)
    | (go_at_call 94; refine (HV.out p m Fd _ O1 hk1).mono ?_; rintro e w2 ⟨x, rfl, hx, hd⟩))
  go_returns
  exact ⟨x, rfl, hx, hd⟩
set_option maxHeartbeats 4000000 in
theorem qList_c (C : PC PS) (G : Nat → Prop) (q : Nat) (v : Vs) (w : World) (h : PV PS G q v w) (hw : Wf v.st) (hn : v.cnt ≤ 4194304) (hc : v.calm) :
    Calls Tryz.prog 25 #[.pointer (some ⟨q, 0, none⟩)] w fun e w' => ∃ x, e = .returned (.tuple #[x, .nilIface]) ∧ w'.ownsRow w.heap.size 9 1 x v.st.names.length (strV v.st.names) ∧ PV PS G q (v.ticks 1) w' ∧ Kp G w w' := by
  have hm := calm_met hc
  have HDev : Hid (Calls Tryz.prog 32 #[.pointer (some ⟨q, 0, none⟩)] w fun e w' => e = .returned (.iface 99 (.pointer (some ⟨q, 0, none⟩))) ∧ w' = w) := device_c G q v w h
  have HFa : Hid (∀ w, Calls Tryz.prog 33 #[.string ⟨#[108, 105, 115, 116]⟩, .string ⟨#[]⟩, .int .i64 0] w fun r w' => r = .returned .nilIface ∧ Below w.heap.size w w') := fun w => (failed_c _ _ 0 w).mono (by
    rintro r w' ⟨ev, rfl, he, hb⟩
    exact ⟨by rw [he.nil], hb⟩)
  have HC : Hid (Calls Tryz.prog 131 #[.pointer (some ⟨q, 0, none⟩)] w fun e w' => ∃ x, e = .returned (.tuple #[x, .int .i64 0]) ∧ w'.ownsRow w.heap.size 9 1 x v.st.names.length (strV v.st.names) ∧ PV PS G q (v.ticks 1) w' ∧ Kp G w w') := by
    have := qdList_c C G q v w h hw hn (by rw [hm])
    rw [hm] at this
    exact this
  have HOB : Hid (∀ (W W' : World) (x : Value) (n : Nat) (l : List Value), W.ownsRow w.heap.size 9 1 x n l → PV PS G q (v.ticks 1) W → Kp G w W → Below W.heap.size W W' → W'.ownsRow w.heap.size 9 1 x n l ∧ PV PS G q (v.ticks 1) W' ∧ Kp G w W') := fun W W' x n l h1 h3 h4 h2 => ⟨own_keep h1 (fun k hk => by
    obtain ⟨cur, hh⟩ := own_typed h1 hk
    exact h2.block k (Array.getElem?_eq_some_iff.1 hh).1), h3.below C h2, h4.kept h2⟩
  clear h hw hn hm hc
  go_enter Tryz.func25, Tryz.ntmps25
  go_wp2_with (first
    | (go_at_call 32; refine HDev.out.mono ?_; rintro e w0 ⟨rfl, hw0⟩; subst w0)
    | (go_at_call 131; refine HC.out.mono ?_; rintro e w1 ⟨x, rfl, hx, hd1, hk1⟩)
    | (go_at_call 33; refine (HFa.out _).mono ?_; rintro e w2 ⟨rfl, hb⟩))
  go_returns
  exact ⟨x, rfl, HOB.out _ _ _ _ _ hx hd1 hk1 hb⟩
end Go.Proofs.YtbbblncoicjacaaGreatDoor
