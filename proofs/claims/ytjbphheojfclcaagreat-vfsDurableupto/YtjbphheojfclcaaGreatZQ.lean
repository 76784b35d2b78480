
-- Scripts on a Vol, plainly.
import Derived.Test.YtjbphheojfclcaaGreatZP
namespace Go.Proofs.YtjbphheojfclcaaGreat
open Go
set_option linter.unusedVariables false
set_option maxRecDepth 100000
def Vl.plays (x : Vl) (l : List Cl) : Vl := l.foldl (fun x o => (x.call o).2) x
theorem plays_snoc (x : Vl) (l : List Cl) (o : Cl) : x.plays (l ++ [o]) = ((x.plays l).call o).2 := by simp [Vl.plays]
theorem plays_take (x : Vl) (l : List Cl) (k : Nat) (o : Cl) (h : l[k]? = some o) : x.plays (l.take (k + 1)) = ((x.plays (l.take k)).call o).2 := by
  rw [List.take_add_one, h]
  exact plays_snoc _ _ _
theorem Sim.plays {x y : Vl} (h : Sim x y) (l : List Cl) : Sim (x.plays l) (y.plays l) := by
  induction l generalizing x y with
  | nil => exact h
  | cons o r ih => exact ih (h.call o).2
theorem Vlf.plays {x : Vl} {k : Nat} (h : Vlf x k) (l : List Cl) (hk : k + l.length ≤ 2097151) : Vlf (x.plays l) (k + l.length) := by
  induction l generalizing x k with
  | nil => exact h
  | cons o r ih =>
    have h2 := h.call (by simp at hk; omega) o
    have := ih h2 (by simp at hk; omega)
    simp only [List.length_cons]
    rw [show k + (r.length + 1) = k + 1 + r.length by omega]
    exact this
theorem met_rd (v : Vs) : v.met.2.round = v.round := by
  unfold Vs.met Vs.tick Vs.cut
  repeat' split
  all_goals rfl
theorem call_cases (x : Vl) (o : Cl) (P : Vl → Prop) (h0 : P x) (h1 : P { x with v := (x.v.read o.a).2 }) (h2 : P { x with v := (x.v.stat o.a).2 }) (h3 : P { x with v := x.v.list.2 }) (h4 : P (x.made o).2) (h5 : P { x with v := (x.v.rename o.a o.b).2 }) (h6 : P { x with v := (x.v.remove o.a).2 }) (h7 : P { x with v := x.v.syncDir.2 }) (h8 : ∀ h ∈ x.hs, P { x with v := (x.v.write h o.a).2 }) (h9 : ∀ h ∈ x.hs, P { x with v := (x.v.sync h).2 }) (h10 : o.kind = 10 → ∀ h ∈ x.hs, P { x with hs := x.hs.set o.n.toNat (x.v.close h).2 }) : P (x.call o).2 := by
  unfold Vl.call
  split
  · exact h1
  split
  · exact h2
  split
  · exact h3
  split
  · exact h4
  split
  · exact h5
  split
  · exact h6
  split
  · exact h7
  split
  · unfold Vl.byHandle
    cases hh : x.hd o.n with
    | none => exact h0
    | some h =>
      have hm := hd_mem hh
      simp only
      unfold Vl.byH
      split
      · exact h8 h hm
      split
      · exact h9 h hm
      split
      · rename_i h; exact h10 h _ hm
      · exact h0
  · exact h0
theorem met_plan (v : Vs) : v.met.2.plan = v.plan := by
  unfold Vs.met Vs.tick Vs.cut
  repeat' split
  all_goals rfl
theorem met_offN (v : Vs) (hp : v.plan = []) : v.met.2.off = v.off := by
  obtain ⟨st, p, c, off, r⟩ := v
  simp only at hp
  subst hp
  rw [met_nil]
  split <;> rfl
theorem read_keep (v : Vs) (a : ByteArray) : (v.read a).2.round = v.round ∧ (v.read a).2.plan = v.plan ∧ (v.plan = [] → (v.read a).2.off = v.off) := by
  have h1 := met_rd v
  have h2 := met_plan v
  have h3 := met_offN v
  unfold Vs.read
  repeat' split
  all_goals (first | exact ⟨h1, h2, h3⟩ | exact ⟨rfl, rfl, fun _ => rfl⟩)
theorem stat_keep (v : Vs) (a : ByteArray) : (v.stat a).2.round = v.round ∧ (v.stat a).2.plan = v.plan ∧ (v.plan = [] → (v.stat a).2.off = v.off) := by
  have h1 := met_rd v
  have h2 := met_plan v
  have h3 := met_offN v
  unfold Vs.stat
  repeat' split
  all_goals (first | exact ⟨h1, h2, h3⟩ | exact ⟨rfl, rfl, fun _ => rfl⟩)
theorem list_keep (v : Vs)  : (v.list).2.round = v.round ∧ (v.list).2.plan = v.plan ∧ (v.plan = [] → (v.list).2.off = v.off) := by
  have h1 := met_rd v
  have h2 := met_plan v
  have h3 := met_offN v
  unfold Vs.list
  repeat' split
  all_goals (first | exact ⟨h1, h2, h3⟩ | exact ⟨rfl, rfl, fun _ => rfl⟩)
theorem create_keep (v : Vs) (a : ByteArray) (m0 m1 m2 m3 : Int) : (v.create a m0 m1 m2 m3).2.round = v.round ∧ (v.create a m0 m1 m2 m3).2.plan = v.plan ∧ (v.plan = [] → (v.create a m0 m1 m2 m3).2.off = v.off) := by
  have h1 := met_rd v
  have h2 := met_plan v
  have h3 := met_offN v
  unfold Vs.create
  repeat' split
  all_goals (first | exact ⟨h1, h2, h3⟩ | exact ⟨rfl, rfl, fun _ => rfl⟩)
theorem rename_keep (v : Vs) (a b : ByteArray) : (v.rename a b).2.round = v.round ∧ (v.rename a b).2.plan = v.plan ∧ (v.plan = [] → (v.rename a b).2.off = v.off) := by
  have h1 := met_rd v
  have h2 := met_plan v
  have h3 := met_offN v
  unfold Vs.rename
  repeat' split
  all_goals (first | exact ⟨h1, h2, h3⟩ | exact ⟨rfl, rfl, fun _ => rfl⟩)
theorem remove_keep (v : Vs) (a : ByteArray) : (v.remove a).2.round = v.round ∧ (v.remove a).2.plan = v.plan ∧ (v.plan = [] → (v.remove a).2.off = v.off) := by
  have h1 := met_rd v
  have h2 := met_plan v
  have h3 := met_offN v
  unfold Vs.remove
  repeat' split
  all_goals (first | exact ⟨h1, h2, h3⟩ | exact ⟨rfl, rfl, fun _ => rfl⟩)
theorem syncDir_keep (v : Vs)  : (v.syncDir).2.round = v.round ∧ (v.syncDir).2.plan = v.plan ∧ (v.plan = [] → (v.syncDir).2.off = v.off) := by
  have h1 := met_rd v
  have h2 := met_plan v
  have h3 := met_offN v
  unfold Vs.syncDir
  repeat' split
  all_goals (first | exact ⟨h1, h2, h3⟩ | exact ⟨rfl, rfl, fun _ => rfl⟩)
theorem write_keep (v : Vs) (h : Hd) (d : ByteArray) : (v.write h d).2.round = v.round ∧ (v.write h d).2.plan = v.plan ∧ (v.plan = [] → (v.write h d).2.off = v.off) := by
  have h1 := met_rd v
  have h2 := met_plan v
  have h3 := met_offN v
  unfold Vs.write Vs.writeB
  repeat' split
  all_goals (first | exact ⟨h1, h2, h3⟩ | exact ⟨rfl, rfl, fun _ => rfl⟩)
theorem sync_keep (v : Vs) (h : Hd) : (v.sync h).2.round = v.round ∧ (v.sync h).2.plan = v.plan ∧ (v.plan = [] → (v.sync h).2.off = v.off) := by
  have h1 := met_rd v
  have h2 := met_plan v
  have h3 := met_offN v
  unfold Vs.sync Vs.syncB
  repeat' split
  all_goals (first | exact ⟨h1, h2, h3⟩ | exact ⟨rfl, rfl, fun _ => rfl⟩)
theorem call_keep (x : Vl) (o : Cl) : (x.call o).2.v.round = x.v.round ∧ (x.call o).2.v.plan = x.v.plan ∧ (x.v.plan = [] → (x.call o).2.v.off = x.v.off) := by
  refine call_cases x o (fun z => z.v.round = x.v.round ∧ z.v.plan = x.v.plan ∧ (x.v.plan = [] → z.v.off = x.v.off)) ⟨rfl, rfl, fun _ => rfl⟩ (read_keep _ _) (stat_keep _ _) (list_keep _) ?_ (rename_keep _ _ _) (remove_keep _ _) (syncDir_keep _) (fun h _ => write_keep _ _ _) (fun h _ => sync_keep _ _) (fun _ h _ => ⟨rfl, rfl, fun _ => rfl⟩)
  unfold Vl.made
  split
  · exact create_keep _ _ _ _ _ _
  · exact create_keep _ _ _ _ _ _
theorem call_round (x : Vl) (o : Cl) : (x.call o).2.v.round = x.v.round := (call_keep x o).1
theorem call_plan (x : Vl) (o : Cl) : (x.call o).2.v.plan = x.v.plan := (call_keep x o).2.1
theorem call_off (x : Vl) (o : Cl) (hp : x.v.plan = []) : (x.call o).2.v.off = x.v.off := (call_keep x o).2.2 hp
/-- Without a Close every handle stays open. -/
theorem AllOpen.call {x : Vl} (h : AllOpen x) (o : Cl) (ho : o.kind ≠ 10) : AllOpen (x.call o).2 := by
  have hr := call_round x o
  have key : ∀ y ∈ (x.call o).2.hs, y.shut = false ∧ y.round = x.v.round := by
    refine call_cases x o (fun z => ∀ y ∈ z.hs, y.shut = false ∧ y.round = x.v.round) h h h h ?_ h h h (fun _ _ => h) (fun _ _ => h) (fun h10 => absurd h10 ho)
    unfold Vl.made
    split
    · intro y hy
      rcases List.mem_append.1 hy with hy | hy
      · exact h y hy
      · simp at hy; subst hy; exact ⟨rfl, rfl⟩
    · exact h
  intro y hy
  rw [hr]
  exact key y hy
theorem AllOpen.plays {x : Vl} (h : AllOpen x) (l : List Cl) (ho : ∀ o ∈ l, o.kind ≠ 10) : AllOpen (x.plays l) := by
  induction l generalizing x with
  | nil => exact h
  | cons o r ih => exact ih (h.call o (ho o (by simp))) fun p hp => ho p (List.mem_cons_of_mem _ hp)
theorem plays_plan (x : Vl) (l : List Cl) : (x.plays l).v.plan = x.v.plan := by
  induction l generalizing x with
  | nil => rfl
  | cons o r ih => exact (ih _).trans (call_plan x o)
theorem plays_off (x : Vl) (l : List Cl) (hp : x.v.plan = []) : (x.plays l).v.off = x.v.off := by
  induction l generalizing x with
  | nil => rfl
  | cons o r ih => exact (ih _ ((call_plan x o).trans hp)).trans (call_off x o hp)
def Vl.new (c : Nat) : Vl := ⟨Vs.new c, []⟩
theorem Vlf.new (c : Nat) (h : c ≤ 1073741824) : Vlf (Vl.new c) 0 := ⟨Vf.new c h, Nat.le_refl _⟩
def Vl.arm (x : Vl) (p : List Flt) : Vl := { x with v := x.v.arm p }
def Vl.restart (x : Vl) (n : Int) (cuts : List Int) : Vl := { x with v := x.v.restart n cuts }
theorem Vlf.arm {x : Vl} {k : Nat} (h : Vlf x k) (p : List Flt) : Vlf (x.arm p) k := ⟨h.vf.arm p, h.few⟩
theorem Vlf.restart {x : Vl} {k : Nat} (h : Vlf x k) (n : Int) (cuts : List Int) : Vlf (x.restart n cuts) (k + 1) := ⟨h.vf.restart n cuts, Nat.le_succ_of_le h.few⟩
/-- A struck call does nothing: behind it, disarmed, the volume is as its twin. -/
theorem struck_plain {x y : Vl} (hs : Sim x y) (hoff : x.v.off = false) (o : Cl) (hc : x.can o = true) (ho : o.kind = 8 ∨ o.kind = 9 → AllOpen x) (kind : Int) (hk : kind = 1 ∨ (kind = 2 ∧ o.kind ≠ 8)) :
    (∃ op nm, ((y.arm [⟨1, kind, 1099511627776⟩]).call o).1 = { an0 with bad := true, op := op, nm := nm, e := 40 }) ∧
    (((y.arm [⟨1, kind, 1099511627776⟩]).call o).2.v.cnt = 1 ∧ ((y.arm [⟨1, kind, 1099511627776⟩]).call o).2.v.off = false ∧ Sim x (((y.arm [⟨1, kind, 1099511627776⟩]).call o).2.arm [])) := by
  obtain ⟨st, c, d, off, r, e1, e2⟩ := hs.v.form
  obtain ⟨xv, xh⟩ := x
  obtain ⟨yv, yh⟩ := y
  have hh := hs.hs
  simp only at e1 e2 hoff hh
  subst e1; subst e2; subst hh
  simp only at hoff
  subst hoff
  have hm := struck_met st kind (by omega) 1099511627776 r
  have key := met_call (x := (⟨⟨st, [], d, false, r⟩, xh⟩ : Vl).arm [⟨1, kind, 1099511627776⟩]) (o := o) hc (by show (Vs.met ⟨st, [⟨1, kind, 1099511627776⟩], 0, false, r⟩).1 ≠ 0; rw [hm]; exact (by decide : (40 : Nat) ≠ 0)) (by show (Vs.met ⟨st, [⟨1, kind, 1099511627776⟩], 0, false, r⟩).2.st = st; rw [hm]) (fun h8 => by
    rcases hk with rfl | ⟨_, h⟩
    · exact struck_short st _ r
    · exact absurd h8 h) (fun h => ho h)
  obtain ⟨⟨op, nm, k1⟩, k2⟩ := key
  have hm' : (Vl.arm ⟨⟨st, [], d, false, r⟩, xh⟩ [⟨1, kind, 1099511627776⟩]).v.met = (40, ⟨st, [⟨1, kind, 1099511627776⟩], 1, false, r⟩) := hm
  rw [hm'] at k1 k2
  refine ⟨⟨op, nm, k1⟩, ?_⟩
  rw [k2]
  exact ⟨rfl, rfl, ⟨rfl, rfl, rfl, rfl, rfl⟩, rfl⟩
end Go.Proofs.YtjbphheojfclcaaGreat
