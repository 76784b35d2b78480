
-- A restart of either of two Vols; the power that goes, plainly.
import Derived.Test.YtjbphheojfclcaaGreatZR0
namespace Go.Proofs.YtjbphheojfclcaaGreat
open Go.RowKit
set_option linter.unusedVariables false
set_option maxRecDepth 100000
variable {PS : (Nat → Prop) → Nat → St → World → Prop}
section
variable {U : Nat → Prop} {va vb : Nat} {x y : Vl} {w W : World}
theorem VA.restart (C : PC PS) {S : Nat → Prop} (h : VA PS S vb x W) {k : Nat} (hk : Vlf x k) (hkk : k ≤ 4194304) : ∃ q, W.cell? ⟨vb, 0, none⟩ = some (.pointer (some ⟨q, 0, none⟩)) ∧
    ∀ W' n cv cuts, Below W.heap.size W W' → RowI W' cv cuts → (cuts ≠ [] → ∀ k, cv.ownBlock = some k → ¬ S k) → cuts.length ≤ 2097152 → Calls Tryz.prog 28 #[.pointer (some ⟨q, 0, none⟩), .int .i64 n, cv] W' fun e w' => e = .returned (.bool true) ∧ VAD PS S vb (x.restart n cuts) W' w' := by
  obtain ⟨q, mv, G, hs, T⟩ := h
  refine ⟨q, T.cells.1, fun W' n cv cuts hb hr hn hl => ?_⟩
  have TW := T.below C hb
  refine (lawRestart_c C G q x.v n cv cuts W' TW.pp hk.vf.wf (by have := hk.vf.round; omega) hr (fun hne k hk hG => hn hne k hk (T.sub k hG)) hl).mono ?_
  rintro e w' ⟨rfl, hd⟩
  obtain ⟨t, hk⟩ := TW.did hd
  exact ⟨rfl, ⟨_, _, _, _, t⟩, hk⟩
theorem T2D.restart2 (C : PC PS) (h : T2D PS U va vb x y w W) {k : Nat} (hk : Vlf y k) (hkk : k ≤ 4194304) : ∃ q, W.cell? ⟨vb, 0, none⟩ = some (.pointer (some ⟨q, 0, none⟩)) ∧
    ∀ W' n cv cuts, Below W.heap.size W W' → RowI W' cv cuts → (cuts ≠ [] → ∀ k, cv.ownBlock = some k → ¬ ext U w W k) → cuts.length ≤ 2097152 → Calls Tryz.prog 28 #[.pointer (some ⟨q, 0, none⟩), .int .i64 n, cv] W' fun e w' => e = .returned (.bool true) ∧ T2D PS U va vb x (y.restart n cuts) w w' := by
  obtain ⟨S2, h1, h2, h3⟩ := h.1.sec C
  obtain ⟨q, hq, f⟩ := h1.restart C hk hkk
  refine ⟨q, hq, fun W' n cv cuts hb hr hn hl => ?_⟩
  refine (f W' n cv cuts hb hr (fun hne k hk hS => hn hne k hk (h2 k hS)) hl).mono ?_
  rintro e w' ⟨rfl, hd⟩
  exact ⟨rfl, h.then (h3 _ _ _ hb hd)⟩
theorem T2D.restart1 (C : PC PS) (h : T2D PS U va vb x y w W) {k : Nat} (hk : Vlf x k) (hkk : k ≤ 4194304) : ∃ q, W.cell? ⟨va, 0, none⟩ = some (.pointer (some ⟨q, 0, none⟩)) ∧
    ∀ W' n cv cuts, Below W.heap.size W W' → RowI W' cv cuts → (cuts ≠ [] → ∀ k, cv.ownBlock = some k → ¬ ext U w W k) → cuts.length ≤ 2097152 → Calls Tryz.prog 28 #[.pointer (some ⟨q, 0, none⟩), .int .i64 n, cv] W' fun e w' => e = .returned (.bool true) ∧ T2D PS U va vb (x.restart n cuts) y w w' := by
  obtain ⟨S1, h1, h2, h3⟩ := h.1.fst C
  obtain ⟨q, hq, f⟩ := h1.restart C hk hkk
  refine ⟨q, hq, fun W' n cv cuts hb hr hn hl => ?_⟩
  refine (f W' n cv cuts hb hr (fun hne k hk hS => hn hne k hk (h2 k hS)) hl).mono ?_
  rintro e w' ⟨rfl, hd⟩
  exact ⟨rfl, h.then (h3 _ _ _ hb hd)⟩
end
def c7 : Cl := ⟨7, 0, ⟨#[]⟩, ⟨#[]⟩, 0, 0, 0, 0⟩
/-- The power goes at a SyncDir; nothing is done from then on; a restart makes both one. -/
theorem down_plain {x : Vl} (hp : x.v.plan = []) (hoff : x.v.off = false) :
    (∃ op nm, ((x.arm [⟨1, 3, 0⟩]).call c7).1 = { an0 with bad := true, op := op, nm := nm, e := 41 }) ∧
    (((x.arm [⟨1, 3, 0⟩]).call c7).2.v.cnt = 1 ∧ ((x.arm [⟨1, 3, 0⟩]).call c7).2.v.off = true ∧ ((x.arm [⟨1, 3, 0⟩]).call c7).2.hs = x.hs ∧ ((x.arm [⟨1, 3, 0⟩]).call c7).2.v.round = x.v.round) ∧
    (∀ n cuts, Sim (x.restart n cuts) ((((x.arm [⟨1, 3, 0⟩]).call c7).2.arm []).restart n cuts)) := by
  obtain ⟨⟨st, pl, c, off, r⟩, hs⟩ := x
  simp only at hp hoff
  subst hp; subst hoff
  have hm := cut_met st 0 r
  have key := met_call (x := (⟨⟨st, [], c, false, r⟩, hs⟩ : Vl).arm [⟨1, 3, 0⟩]) (o := c7) rfl (by show (Vs.met ⟨st, [⟨1, 3, 0⟩], 0, false, r⟩).1 ≠ 0; rw [hm]; exact (by decide : (41 : Nat) ≠ 0)) (by show (Vs.met ⟨st, [⟨1, 3, 0⟩], 0, false, r⟩).2.st = st; rw [hm]) (fun h => absurd h (by decide)) (fun h => by rcases h with h | h <;> exact absurd h (by decide))
  obtain ⟨⟨op, nm, k1⟩, k2⟩ := key
  have hm' : (Vl.arm ⟨⟨st, [], c, false, r⟩, hs⟩ [⟨1, 3, 0⟩]).v.met = (41, ⟨st, [⟨1, 3, 0⟩], 1, true, r⟩) := hm
  rw [hm'] at k1 k2
  refine ⟨⟨op, nm, k1⟩, ?_⟩
  rw [k2]
  exact ⟨⟨rfl, rfl, rfl, rfl⟩, fun n cuts => ⟨⟨rfl, rfl, rfl, rfl, rfl⟩, rfl⟩⟩
/-- While the power is off nothing is done. -/
theorem off_plain {y : Vl} (hoff : y.v.off = true) (o : Cl) (hc : y.can o = true) (ho : o.kind = 8 ∨ o.kind = 9 → AllOpen y) :
    (∃ op nm, (y.call o).1 = { an0 with bad := true, op := op, nm := nm, e := 41 }) ∧ (y.call o).2 = y := by
  have hm : y.v.met = (41, y.v) := met_off hoff
  have key := met_call (x := y) (o := o) hc (by rw [hm]; exact (by decide : (41 : Nat) ≠ 0)) (by rw [hm]) (fun _ => by unfold Vs.short; rw [if_pos hoff]) ho
  rw [hm] at key
  exact key
theorem can_hs {x y : Vl} (h : x.hs = y.hs) (o : Cl) : x.can o = y.can o := by unfold Vl.can Vl.hd; rw [h]
theorem open_hs {x y : Vl} (h : y.hs = x.hs) (hr : y.v.round = x.v.round) (ho : AllOpen x) : AllOpen y := fun z hz => by
  rw [h] at hz
  rw [hr]
  exact ho z hz
end Go.Proofs.YtjbphheojfclcaaGreat
