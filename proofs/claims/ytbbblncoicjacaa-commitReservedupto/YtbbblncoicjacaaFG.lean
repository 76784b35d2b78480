
-- A calm volume: what it tells of its files.
import Derived.Test.YtbbblncoicjacaaX2
import Derived.Test.YtbbblncoicjacaaKF
import Derived.Test.YtbbblncoicjacaaU16
namespace Go.Proofs.Ytbbblncoicjacaa
open Go.RowKit
set_option linter.unusedVariables false
set_option maxRecDepth 100000
variable {PS : (Nat → Prop) → Nat → St → World → Prop}
def Vs.calm (v : Vs) : Prop := v.off = false ∧ v.plan = []
def Vs.ticks (v : Vs) (n : Nat) : Vs := { v with cnt := v.cnt + n }
theorem calm_met {v : Vs} (h : v.calm) : v.met = (0, v.tick) := by
  obtain ⟨h1, h2⟩ := h
  refine met_ok h1 ?_
  unfold Vs.strikes hit; rw [h2]; rfl
theorem calm_ticks {v : Vs} (h : v.calm) (n : Nat) : (v.ticks n).calm := h
theorem tick_ticks (v : Vs) (n : Nat) : (v.ticks n).tick = v.ticks (n + 1) := rfl
theorem tick_one (v : Vs) : v.tick = v.ticks 1 := rfl
theorem find_at {st : St} (hw : Wf st) (hd : DW st) {e : ByteArray × Nat} (he : e ∈ st.now) : st.find e.1 = ((e.1, lookB st.bodies e.2), (e.2, 0)) := by
  have hdn := hd.now hw
  have hp : ∀ f ∈ st.now, f.2 ≠ 0 := fun f hf => by have := (hw.led _ (now_mem hw) f hf).1; omega
  have hl := dw_leads hdn he hp
  unfold St.find
  rw [if_neg (by rw [hdn.name e he]; decide), hl, if_neg (hp e he)]; rfl
theorem read_at {st : St} (hw : Wf st) {e : ByteArray × Nat} (he : e ∈ st.now) : st.read (e.2 : Int) = ((lookB st.bodies e.2).data, 0) := by
  have ht : there st.now (e.2 : Int) = true := by unfold there; rw [List.any_eq_true]; exact ⟨e, he, by simp⟩
  obtain ⟨h1, h2⟩ := hw.led _ (now_mem hw) e he
  have hb : st.bodies[e.2 - 1]? = some (st.bodies[e.2 - 1]'(by omega)) := List.getElem?_eq_getElem _
  unfold St.read St.at_
  rw [if_pos ht, Int.toNat_natCast, hb]
  unfold lookB
  rw [hb]; rfl
theorem stat_at {v : Vs} (hc : v.calm) (hw : Wf v.st) (hd : DW v.st) {e : ByteArray × Nat} (he : e ∈ v.st.now) : v.stat e.1 = (((e.1, lookB v.st.bodies e.2), 0), v.ticks 1) := by
  unfold Vs.stat
  rw [calm_met hc, if_neg (by simp), find_at hw hd he]; rfl
theorem readf_at {v : Vs} (hc : v.calm) (hw : Wf v.st) (hd : DW v.st) {e : ByteArray × Nat} (he : e ∈ v.st.now) : v.read e.1 = (((lookB v.st.bodies e.2).data, 0), v.ticks 1) := by
  unfold Vs.read
  rw [calm_met hc, if_neg (by simp), find_at hw hd he, if_neg (by simp), read_at hw he]; rfl
end Go.Proofs.Ytbbblncoicjacaa
