
-- A volume with its handles, call by call, plainly: what the statements' own Vol answers.
import Derived.Test.YtjbphheojfclcaaGreatQ1
namespace Go.Proofs.YtjbphheojfclcaaGreat
open Go
set_option linter.unusedVariables false
set_option maxRecDepth 100000
/-- A step, but for its plan and its cuts. -/
structure Cl where
  kind : Int
  n : Int
  a : ByteArray
  b : ByteArray
  m0 : Int
  m1 : Int
  m2 : Int
  m3 : Int
/-- An answer. -/
structure An where
  s : ByteArray
  n : Int
  i0 : Int
  i1 : Int
  i2 : Int
  i3 : Int
  iname : ByteArray
  isz : Int
  l : List ByteArray
  bad : Bool
  op : ByteArray
  nm : ByteArray
  e : Nat
def an0 : An := ⟨⟨#[]⟩, 0, 0, 0, 0, 0, ⟨#[]⟩, 0, [], false, ⟨#[]⟩, ⟨#[]⟩, 0⟩
def An.fail (a : An) (op nm : ByteArray) (e : Nat) : An := if e = 0 then a else { a with bad := true, op := op, nm := nm, e := e }
def opRead : ByteArray := ⟨#[114, 101, 97, 100]⟩
def opStat : ByteArray := ⟨#[115, 116, 97, 116]⟩
def opList : ByteArray := ⟨#[108, 105, 115, 116]⟩
def opCreate : ByteArray := ⟨#[99, 114, 101, 97, 116, 101]⟩
def opRename : ByteArray := ⟨#[114, 101, 110, 97, 109, 101]⟩
def opRemove : ByteArray := ⟨#[114, 101, 109, 111, 118, 101]⟩
def opSyncDir : ByteArray := ⟨#[115, 121, 110, 99, 100, 105, 114]⟩
def opWrite : ByteArray := ⟨#[119, 114, 105, 116, 101]⟩
def opSync : ByteArray := ⟨#[115, 121, 110, 99]⟩
def opClose : ByteArray := ⟨#[99, 108, 111, 115, 101]⟩
structure Vl where
  v : Vs
  hs : List Hd
def Vl.hd (x : Vl) (n : Int) : Option Hd := if n < 0 then none else x.hs[n.toNat]?
def anInfo (i : ByteArray × Bd) : An := { an0 with i0 := i.2.date, i1 := i.2.uid, i2 := i.2.gid, i3 := i.2.mode, iname := i.1, isz := i.2.data.size }
/-- A step by the handle h, the n-th. -/
def Vl.byH (x : Vl) (o : Cl) (h : Hd) : An × Vl :=
  if o.kind = 8 then (({ an0 with n := (x.v.write h o.a).1.1 }).fail opWrite h.name (x.v.write h o.a).1.2, { x with v := (x.v.write h o.a).2 })
  else if o.kind = 9 then (an0.fail opSync h.name (x.v.sync h).1, { x with v := (x.v.sync h).2 })
  else if o.kind = 10 then (an0.fail opClose h.name (x.v.close h).1, { x with hs := x.hs.set o.n.toNat (x.v.close h).2 })
  else ({ an0 with s := h.name }, x)
def Vl.byHandle (x : Vl) (o : Cl) : An × Vl := match x.hd o.n with
  | none => (an0, x)
  | some h => x.byH o h
def Vl.made (x : Vl) (o : Cl) : An × Vl :=
  if (x.v.create o.a o.m0 o.m1 o.m2 o.m3).1.2 = 0 then ({ an0 with n := (x.hs.length : Int) + 1 }, ⟨(x.v.create o.a o.m0 o.m1 o.m2 o.m3).2, x.hs ++ [⟨o.a, (x.v.create o.a o.m0 o.m1 o.m2 o.m3).1.1, x.v.round, false⟩]⟩)
  else (an0.fail opCreate o.a (x.v.create o.a o.m0 o.m1 o.m2 o.m3).1.2, { x with v := (x.v.create o.a o.m0 o.m1 o.m2 o.m3).2 })
def Vl.call (x : Vl) (o : Cl) : An × Vl :=
  if o.kind = 1 then (({ an0 with s := (x.v.read o.a).1.1 }).fail opRead o.a (x.v.read o.a).1.2, { x with v := (x.v.read o.a).2 })
  else if o.kind = 2 then ((anInfo (x.v.stat o.a).1.1).fail opStat o.a (x.v.stat o.a).1.2, { x with v := (x.v.stat o.a).2 })
  else if o.kind = 3 then (({ an0 with l := x.v.list.1.1 }).fail opList ⟨#[]⟩ x.v.list.1.2, { x with v := x.v.list.2 })
  else if o.kind = 4 then x.made o
  else if o.kind = 5 then (an0.fail opRename o.a (x.v.rename o.a o.b).1, { x with v := (x.v.rename o.a o.b).2 })
  else if o.kind = 6 then (an0.fail opRemove o.a (x.v.remove o.a).1, { x with v := (x.v.remove o.a).2 })
  else if o.kind = 7 then (an0.fail opSyncDir ⟨#[]⟩ x.v.syncDir.1, { x with v := x.v.syncDir.2 })
  else if 8 ≤ o.kind ∧ o.kind ≤ 11 then x.byHandle o
  else (an0, x)
/-- All is well behind k steps. -/
structure Vlf (x : Vl) (k : Nat) : Prop where
  vf : Vf x.v k
  few : x.hs.length ≤ k
theorem Vlf.mono {x : Vl} {k j : Nat} (h : Vlf x k) (hj : k ≤ j) : Vlf x j := ⟨h.vf.mono hj, Nat.le_trans h.few hj⟩
theorem Vlf.call {x : Vl} {k : Nat} (h : Vlf x k) (hk : k < 2097151) (o : Cl) : Vlf (x.call o).2 (k + 1) := by
  have hf : x.hs.length ≤ k + 1 := Nat.le_succ_of_le h.few
  unfold Vl.call
  split
  · exact ⟨h.vf.read _, hf⟩
  split
  · exact ⟨h.vf.stat _, hf⟩
  split
  · exact ⟨h.vf.list, hf⟩
  split
  · unfold Vl.made
    split
    · exact ⟨h.vf.create hk _ _ _ _ _, by simp; exact h.few⟩
    · exact ⟨h.vf.create hk _ _ _ _ _, hf⟩
  split
  · exact ⟨h.vf.rename hk _ _, hf⟩
  split
  · exact ⟨h.vf.remove hk _, hf⟩
  split
  · exact ⟨h.vf.syncDir, hf⟩
  split
  · unfold Vl.byHandle
    split
    · exact h.mono (Nat.le_succ k)
    · unfold Vl.byH
      split
      · exact ⟨h.vf.write _ _, hf⟩
      split
      · exact ⟨h.vf.sync _, hf⟩
      split
      · exact ⟨h.vf.mono (Nat.le_succ k), by simpa using hf⟩
      · exact h.mono (Nat.le_succ k)
  · exact h.mono (Nat.le_succ k)
/-- Two volumes that differ in what they counted alone, with no plan. -/
structure VSim (v w : Vs) : Prop where
  st : v.st = w.st
  pv : v.plan = []
  pw : w.plan = []
  off : v.off = w.off
  round : v.round = w.round
structure Sim (x y : Vl) : Prop where
  v : VSim x.v y.v
  hs : x.hs = y.hs
theorem VSim.refl {v : Vs} (h : v.plan = []) : VSim v v := ⟨rfl, h, h, rfl, rfl⟩
theorem Sim.refl {x : Vl} (h : x.v.plan = []) : Sim x x := ⟨VSim.refl h, rfl⟩
theorem met_nil (st : St) (c : Nat) (off : Bool) (r : Nat) : Vs.met ⟨st, [], c, off, r⟩ = if off = true then (41, ⟨st, [], c, off, r⟩) else (0, ⟨st, [], c + 1, off, r⟩) := by
  unfold Vs.met Vs.strikes hit Vs.tick
  simp
theorem short_nil (st : St) (c : Nat) (off : Bool) (r : Nat) : Vs.short ⟨st, [], c, off, r⟩ = none := by
  unfold Vs.short Vs.strikes hit
  simp
theorem VSim.form {v w : Vs} (h : VSim v w) : ∃ st c d off r, v = ⟨st, [], c, off, r⟩ ∧ w = ⟨st, [], d, off, r⟩ := by
  obtain ⟨st, p, c, off, r⟩ := v
  obtain ⟨st', p', c', off', r'⟩ := w
  obtain ⟨h1, h2, h3, h4, h5⟩ := h
  simp only at h1 h2 h3 h4 h5
  subst h1; subst h2; subst h3; subst h4; subst h5
  exact ⟨_, _, _, _, _, rfl, rfl⟩
theorem VSim.met {v w : Vs} (h : VSim v w) : v.met.1 = w.met.1 ∧ VSim v.met.2 w.met.2 ∧ v.short = w.short := by
  obtain ⟨st, c, d, off, r, rfl, rfl⟩ := h.form
  rw [met_nil, met_nil, short_nil, short_nil]
  cases off
  · exact ⟨rfl, ⟨rfl, rfl, rfl, rfl, rfl⟩, rfl⟩
  · exact ⟨rfl, ⟨rfl, rfl, rfl, rfl, rfl⟩, rfl⟩
theorem VSim.on {v w : Vs} (h : VSim v w) (s : St) : VSim (v.on s) (w.on s) := ⟨rfl, h.pv, h.pw, h.off, h.round⟩
theorem VSim.read {v w : Vs} (h : VSim v w) (a : ByteArray) : (v.read a).1 = (w.read a).1 ∧ VSim (v.read a).2 (w.read a).2 := by
  obtain ⟨m1, m2, m3⟩ := h.met
  unfold Vs.read
  rw [m1, h.st]
  repeat' split
  all_goals exact ⟨rfl, m2⟩
theorem VSim.stat {v w : Vs} (h : VSim v w) (a : ByteArray) : (v.stat a).1 = (w.stat a).1 ∧ VSim (v.stat a).2 (w.stat a).2 := by
  obtain ⟨m1, m2, m3⟩ := h.met
  unfold Vs.stat
  rw [m1, h.st]
  repeat' split
  all_goals exact ⟨rfl, m2⟩
theorem VSim.list {v w : Vs} (h : VSim v w) : v.list.1 = w.list.1 ∧ VSim v.list.2 w.list.2 := by
  obtain ⟨m1, m2, m3⟩ := h.met
  unfold Vs.list
  rw [m1, h.st]
  repeat' split
  all_goals exact ⟨rfl, m2⟩
theorem VSim.create {v w : Vs} (h : VSim v w) (a : ByteArray) (m0 m1 m2 m3 : Int) : (v.create a m0 m1 m2 m3).1 = (w.create a m0 m1 m2 m3).1 ∧ VSim (v.create a m0 m1 m2 m3).2 (w.create a m0 m1 m2 m3).2 := by
  obtain ⟨q1, q2, q3⟩ := h.met
  unfold Vs.create
  rw [q1, h.st]
  repeat' split
  · exact ⟨rfl, q2⟩
  · exact ⟨rfl, q2.on _⟩
theorem VSim.rename {v w : Vs} (h : VSim v w) (a b : ByteArray) : (v.rename a b).1 = (w.rename a b).1 ∧ VSim (v.rename a b).2 (w.rename a b).2 := by
  obtain ⟨q1, q2, q3⟩ := h.met
  unfold Vs.rename
  rw [q1, h.st]
  repeat' split
  · exact ⟨rfl, q2⟩
  · exact ⟨rfl, q2.on _⟩
theorem VSim.remove {v w : Vs} (h : VSim v w) (a : ByteArray) : (v.remove a).1 = (w.remove a).1 ∧ VSim (v.remove a).2 (w.remove a).2 := by
  obtain ⟨q1, q2, q3⟩ := h.met
  unfold Vs.remove
  rw [q1, h.st]
  repeat' split
  · exact ⟨rfl, q2⟩
  · exact ⟨rfl, q2.on _⟩
theorem VSim.syncDir {v w : Vs} (h : VSim v w) : v.syncDir.1 = w.syncDir.1 ∧ VSim v.syncDir.2 w.syncDir.2 := by
  obtain ⟨q1, q2, q3⟩ := h.met
  unfold Vs.syncDir
  rw [q1, h.st]
  repeat' split
  · exact ⟨rfl, q2⟩
  · exact ⟨rfl, q2.on _⟩
theorem VSim.syncB {v w : Vs} (h : VSim v w) (n : Int) : (v.syncB n).1 = (w.syncB n).1 ∧ VSim (v.syncB n).2 (w.syncB n).2 := by
  obtain ⟨q1, q2, q3⟩ := h.met
  unfold Vs.syncB
  rw [q1, h.st]
  repeat' split
  · exact ⟨rfl, q2⟩
  · exact ⟨rfl, q2.on _⟩
theorem VSim.writeB {v w : Vs} (h : VSim v w) (n : Int) (d : ByteArray) : (v.writeB n d).1 = (w.writeB n d).1 ∧ VSim (v.writeB n d).2 (w.writeB n d).2 := by
  obtain ⟨q1, q2, q3⟩ := h.met
  unfold Vs.writeB
  rw [q1, q3, h.st]
  repeat' split
  all_goals (first | exact ⟨rfl, q2.on _⟩ | exact ⟨rfl, q2⟩)
theorem VSim.closed {v w : Vs} (h : VSim v w) (x : Hd) : x.closed v = x.closed w := by unfold Hd.closed; rw [h.round]
theorem VSim.write {v w : Vs} (h : VSim v w) (x : Hd) (d : ByteArray) : (v.write x d).1 = (w.write x d).1 ∧ VSim (v.write x d).2 (w.write x d).2 := by
  unfold Vs.write
  rw [h.closed]
  split
  · exact ⟨rfl, h⟩
  · exact h.writeB _ _
theorem VSim.sync {v w : Vs} (h : VSim v w) (x : Hd) : (v.sync x).1 = (w.sync x).1 ∧ VSim (v.sync x).2 (w.sync x).2 := by
  unfold Vs.sync
  rw [h.closed]
  split
  · exact ⟨rfl, h⟩
  · exact h.syncB _
theorem VSim.close {v w : Vs} (h : VSim v w) (x : Hd) : v.close x = w.close x := by unfold Vs.close; rw [h.closed]
theorem Sim.byH {x y : Vl} (h : Sim x y) (o : Cl) (z : Hd) : (x.byH o z).1 = (y.byH o z).1 ∧ Sim (x.byH o z).2 (y.byH o z).2 := by
  unfold Vl.byH
  split
  · obtain ⟨h1, h2⟩ := h.v.write z o.a
    rw [h1]; exact ⟨rfl, h2, h.hs⟩
  split
  · obtain ⟨h1, h2⟩ := h.v.sync z
    rw [h1]; exact ⟨rfl, h2, h.hs⟩
  split
  · rw [h.v.close, h.hs]; exact ⟨rfl, h.v, rfl⟩
  · exact ⟨rfl, h⟩
theorem Sim.call {x y : Vl} (h : Sim x y) (o : Cl) : (x.call o).1 = (y.call o).1 ∧ Sim (x.call o).2 (y.call o).2 := by
  unfold Vl.call
  split
  · obtain ⟨h1, h2⟩ := h.v.read o.a
    rw [h1]; exact ⟨rfl, h2, h.hs⟩
  split
  · obtain ⟨h1, h2⟩ := h.v.stat o.a
    rw [h1]; exact ⟨rfl, h2, h.hs⟩
  split
  · obtain ⟨h1, h2⟩ := h.v.list
    rw [h1]; exact ⟨rfl, h2, h.hs⟩
  split
  · obtain ⟨h1, h2⟩ := h.v.create o.a o.m0 o.m1 o.m2 o.m3
    unfold Vl.made
    rw [h1, h.hs, h.v.round]
    split
    · exact ⟨rfl, h2, rfl⟩
    · exact ⟨rfl, h2, rfl⟩
  split
  · obtain ⟨h1, h2⟩ := h.v.rename o.a o.b
    rw [h1]; exact ⟨rfl, h2, h.hs⟩
  split
  · obtain ⟨h1, h2⟩ := h.v.remove o.a
    rw [h1]; exact ⟨rfl, h2, h.hs⟩
  split
  · obtain ⟨h1, h2⟩ := h.v.syncDir
    rw [h1]; exact ⟨rfl, h2, h.hs⟩
  split
  · unfold Vl.byHandle Vl.hd
    rw [h.hs]
    split
    · exact ⟨rfl, h⟩
    · exact h.byH o _
  · exact ⟨rfl, h⟩
/-- Every handle is open. -/
def AllOpen (x : Vl) : Prop := ∀ h ∈ x.hs, h.shut = false ∧ h.round = x.v.round
/-- A step that would be counted. -/
def Vl.can (x : Vl) (o : Cl) : Bool := decide (1 ≤ o.kind) && decide (o.kind ≤ 9) && (decide (o.kind < 8) || (x.hd o.n).isSome)
/-- A volume whose next call is struck, or whose power is off. -/
theorem struck_met (st : St) (k : Int) (hk : k = 1 ∨ k = 2) (n : Int) (r : Nat) : Vs.met ⟨st, [⟨1, k, n⟩], 0, false, r⟩ = (40, ⟨st, [⟨1, k, n⟩], 1, false, r⟩) := by
  unfold Vs.met Vs.strikes hit Vs.tick
  rcases hk with rfl | rfl <;> simp
theorem struck_short (st : St) (n : Int) (r : Nat) : Vs.short ⟨st, [⟨1, 1, n⟩], 0, false, r⟩ = none := by
  unfold Vs.short Vs.strikes hit
  simp
theorem cut_met (st : St) (n : Int) (r : Nat) : Vs.met ⟨st, [⟨1, 3, n⟩], 0, false, r⟩ = (41, ⟨st, [⟨1, 3, n⟩], 1, true, r⟩) := by
  unfold Vs.met Vs.strikes hit Vs.cut
  simp
theorem hd_mem {x : Vl} {n : Int} {h : Hd} (hh : x.hd n = some h) : h ∈ x.hs := by
  unfold Vl.hd at hh
  split at hh
  · cases hh
  · exact List.mem_of_getElem? hh
/-- A call that meets an error without a short write is refused and does nothing but count. -/
theorem met_call {x : Vl} {o : Cl} (hc : x.can o = true) (hm : x.v.met.1 ≠ 0) (hst : x.v.met.2.st = x.v.st) (hsh : o.kind = 8 → x.v.short = none) (ho : o.kind = 8 ∨ o.kind = 9 → AllOpen x) :
    (∃ op nm, (x.call o).1 = { an0 with bad := true, op := op, nm := nm, e := x.v.met.1 }) ∧ (x.call o).2 = { x with v := x.v.met.2 } := by
  have hfail : ∀ op nm, an0.fail op nm x.v.met.1 = { an0 with bad := true, op := op, nm := nm, e := x.v.met.1 } := fun op nm => by unfold An.fail; rw [if_neg hm]
  unfold Vl.can at hc
  simp only [Bool.and_eq_true, Bool.or_eq_true, decide_eq_true_eq] at hc
  obtain ⟨⟨c1, c2⟩, c3⟩ := hc
  unfold Vl.call
  split
  · refine ⟨⟨opRead, o.a, ?_⟩, ?_⟩
    · unfold Vs.read; rw [if_pos hm]; exact hfail _ _
    · unfold Vs.read; rw [if_pos hm]
  split
  · refine ⟨⟨opStat, o.a, ?_⟩, ?_⟩
    · unfold Vs.stat; rw [if_pos hm]; exact hfail _ _
    · unfold Vs.stat; rw [if_pos hm]
  split
  · refine ⟨⟨opList, ⟨#[]⟩, ?_⟩, ?_⟩
    · unfold Vs.list; rw [if_pos hm]; exact hfail _ _
    · unfold Vs.list; rw [if_pos hm]
  split
  · unfold Vl.made Vs.create
    rw [if_pos hm]
    simp only
    rw [if_neg hm]
    exact ⟨⟨opCreate, o.a, hfail _ _⟩, rfl⟩
  split
  · refine ⟨⟨opRename, o.a, ?_⟩, ?_⟩
    · unfold Vs.rename; rw [if_pos hm]; exact hfail _ _
    · unfold Vs.rename; rw [if_pos hm]
  split
  · refine ⟨⟨opRemove, o.a, ?_⟩, ?_⟩
    · unfold Vs.remove; rw [if_pos hm]; exact hfail _ _
    · unfold Vs.remove; rw [if_pos hm]
  split
  · refine ⟨⟨opSyncDir, ⟨#[]⟩, ?_⟩, ?_⟩
    · unfold Vs.syncDir; rw [if_pos hm]; exact hfail _ _
    · unfold Vs.syncDir; rw [if_pos hm]
  rw [if_pos (by omega)]
  have h8 : ¬ o.kind < 8 := by omega
  rcases c3 with c3 | c3
  · exact absurd c3 h8
  · obtain ⟨h, hh⟩ := Option.isSome_iff_exists.1 c3
    unfold Vl.byHandle
    rw [hh]
    simp only
    have hop := ho (by omega) h (hd_mem hh)
    have hcl : h.closed x.v = false := by unfold Hd.closed; rw [hop.1, hop.2]; simp
    unfold Vl.byH
    split
    · rename_i h8
      have hsh := hsh h8
      unfold Vs.write Vs.writeB
      rw [hcl]
      simp only [Bool.false_eq_true, if_false]
      rw [if_neg hm, hsh]
      exact ⟨⟨opWrite, h.name, hfail _ _⟩, rfl⟩
    · rw [if_pos (by omega)]
      unfold Vs.sync Vs.syncB
      rw [hcl]
      simp only [Bool.false_eq_true, if_false]
      rw [if_pos hm]
      exact ⟨⟨opSync, h.name, hfail _ _⟩, rfl⟩
end Go.Proofs.YtjbphheojfclcaaGreat
