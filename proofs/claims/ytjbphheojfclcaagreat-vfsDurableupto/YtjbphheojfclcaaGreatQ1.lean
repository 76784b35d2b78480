
-- The volume with its calls as plain data: what chapter 4 says, over the plain disk.
import Derived.Test.YtjbphheojfclcaaGreatP1
namespace Go.Proofs.YtjbphheojfclcaaGreat
open Go
set_option linter.unusedVariables false
structure Flt where
  at_ : Int
  kind : Int
  n : Int
structure Vs where
  st : St
  plan : List Flt
  cnt : Nat
  off : Bool
  round : Nat
/-- A handle. -/
structure Hd where
  name : ByteArray
  body : Nat
  round : Nat
  shut : Bool
def hit (plan : List Flt) (k : Int) : Option Flt := plan.find? fun f => decide (f.at_ = k)
def Vs.tick (v : Vs) : Vs := { v with cnt := v.cnt + 1 }
def Vs.cut (v : Vs) : Vs := { v with cnt := v.cnt + 1, off := true }
def Vs.on (v : Vs) (st : St) : Vs := { v with st := st }
/-- What strikes: the fault, if the power is on and it is of one of the three kinds. -/
def Vs.strikes (v : Vs) : Option Flt := match hit v.plan ((v.cnt : Int) + 1) with
  | none => none
  | some f => if f.kind = 1 ∨ f.kind = 2 ∨ f.kind = 3 then some f else none
/-- What a call meets: its error, and the volume behind it. -/
def Vs.met (v : Vs) : Nat × Vs :=
  if v.off = true then (41, v)
  else match v.strikes with
    | none => (0, v.tick)
    | some f => if f.kind = 3 then (41, v.cut) else (40, v.tick)
/-- Of a short write: how many bytes. -/
def Vs.short (v : Vs) : Option Int :=
  if v.off = true then none
  else match v.strikes with
    | none => none
    | some f => if f.kind = 2 then some f.n else none
theorem met_off {v : Vs} (h : v.off = true) : v.met = (41, v) := by simp [Vs.met, h]
theorem met_ok {v : Vs} (h : v.off = false) (hs : v.strikes = none) : v.met = (0, v.tick) := by simp [Vs.met, h, hs]
theorem met_st (v : Vs) : v.met.2.st = v.st := by
  unfold Vs.met
  split
  · rfl
  · split
    · rfl
    · split <;> rfl
def Vs.read (v : Vs) (name : ByteArray) : (ByteArray × Nat) × Vs :=
  if v.met.1 ≠ 0 then ((⟨#[]⟩, v.met.1), v.met.2)
  else if (v.st.find name).2.2 ≠ 0 then ((⟨#[]⟩, (v.st.find name).2.2), v.met.2)
  else (v.st.read (v.st.find name).2.1, v.met.2)
def Vs.stat (v : Vs) (name : ByteArray) : ((ByteArray × Bd) × Nat) × Vs :=
  if v.met.1 ≠ 0 then (((⟨#[]⟩, noBd), v.met.1), v.met.2)
  else (((v.st.find name).1, (v.st.find name).2.2), v.met.2)
def Vs.list (v : Vs) : (List ByteArray × Nat) × Vs :=
  if v.met.1 ≠ 0 then (([], v.met.1), v.met.2) else ((v.st.names, 0), v.met.2)
/-- The number of the body, or 0; the error. -/
def Vs.create (v : Vs) (name : ByteArray) (m0 m1 m2 m3 : Int) : (Nat × Nat) × Vs :=
  if v.met.1 ≠ 0 then ((0, v.met.1), v.met.2)
  else ((v.st.create name m0 m1 m2 m3).1, v.met.2.on (v.st.create name m0 m1 m2 m3).2)
def Vs.rename (v : Vs) (old to : ByteArray) : Nat × Vs :=
  if v.met.1 ≠ 0 then (v.met.1, v.met.2) else ((v.st.rename old to).1, v.met.2.on (v.st.rename old to).2)
def Vs.remove (v : Vs) (name : ByteArray) : Nat × Vs :=
  if v.met.1 ≠ 0 then (v.met.1, v.met.2) else ((v.st.remove name).1, v.met.2.on (v.st.remove name).2)
def Vs.syncDir (v : Vs) : Nat × Vs :=
  if v.met.1 ≠ 0 then (v.met.1, v.met.2) else (0, v.met.2.on v.st.syncDir)
def Vs.syncB (v : Vs) (n : Int) : Nat × Vs :=
  if v.met.1 ≠ 0 then (v.met.1, v.met.2) else ((v.st.sync n).1, v.met.2.on (v.st.sync n).2)
def part (data : ByteArray) (n : Int) : ByteArray := data.extract 0 (min (max n 0).toNat data.size)
/-- How many bytes; the error. -/
def Vs.writeB (v : Vs) (n : Int) (data : ByteArray) : (Nat × Nat) × Vs :=
  if v.met.1 = 0 then
    if (v.st.append n data).1 ≠ 0 then ((0, (v.st.append n data).1), v.met.2.on (v.st.append n data).2) else ((data.size, 0), v.met.2.on (v.st.append n data).2)
  else match v.short with
    | none => ((0, v.met.1), v.met.2)
    | some k =>
      if (v.st.append n (part data k)).1 ≠ 0 then ((0, (v.st.append n (part data k)).1), v.met.2.on (v.st.append n (part data k)).2)
      else (((part data k).size, v.met.1), v.met.2.on (v.st.append n (part data k)).2)
def Hd.closed (h : Hd) (v : Vs) : Bool := h.shut || decide (h.round ≠ v.round)
def Vs.write (v : Vs) (h : Hd) (data : ByteArray) : (Nat × Nat) × Vs := if h.closed v = true then ((0, 42), v) else v.writeB h.body data
def Vs.sync (v : Vs) (h : Hd) : Nat × Vs := if h.closed v = true then (42, v) else v.syncB h.body
def Vs.close (v : Vs) (h : Hd) : Nat × Hd := if h.closed v = true then (42, h) else (0, { h with shut := true })
def Vs.arm (v : Vs) (plan : List Flt) : Vs := { v with plan := plan, cnt := 0 }
def Vs.restart (v : Vs) (n : Int) (cuts : List Int) : Vs := ⟨v.st.crash n cuts, [], 0, false, v.round + 1⟩
def Vs.new (c : Nat) : Vs := ⟨St.new c, [], 0, false, 0⟩
/-- All is well behind k calls. -/
structure Vf (v : Vs) (k : Nat) : Prop where
  wf : Wf v.st
  bodies : v.st.bodies.length ≤ k
  dirs : v.st.dirs.length ≤ k + 1
  cnt : v.cnt ≤ k
  round : v.round ≤ k
theorem Vf.mono {v : Vs} {k j : Nat} (h : Vf v k) (hj : k ≤ j) : Vf v j := ⟨h.wf, Nat.le_trans h.bodies hj, by have := h.dirs; omega, Nat.le_trans h.cnt hj, Nat.le_trans h.round hj⟩
theorem Vf.met {v : Vs} {k : Nat} (h : Vf v k) : Vf v.met.2 (k + 1) := by
  obtain ⟨h1, h2, h3, h4, h5⟩ := h
  unfold Vs.met
  split
  · exact ⟨h1, by show v.st.bodies.length ≤ _; omega, by show v.st.dirs.length ≤ _; omega, by show v.cnt ≤ _; omega, by show v.round ≤ _; omega⟩
  · split
    · exact ⟨h1, by show v.st.bodies.length ≤ _; omega, by show v.st.dirs.length ≤ _; omega, by show v.cnt + 1 ≤ _; omega, by show v.round ≤ _; omega⟩
    · split <;> exact ⟨h1, by show v.st.bodies.length ≤ _; omega, by show v.st.dirs.length ≤ _; omega, by show v.cnt + 1 ≤ _; omega, by show v.round ≤ _; omega⟩
theorem Vf.on {v : Vs} {k : Nat} (h : Vf v k) {st : St} (f : Fine v.st st) : Vf (v.met.2.on st) (k + 1) := by
  have hm := h.met
  exact ⟨f.wf, by show st.bodies.length ≤ _; have := f.bodies; have := h.bodies; omega, by show st.dirs.length ≤ _; have := f.dirs; have := h.dirs; omega, hm.cnt, hm.round⟩
theorem Vf.new (c : Nat) (h : c ≤ 1073741824) : Vf (Vs.new c) 0 := ⟨new_wf c h, by simp [Vs.new, St.new], by simp [Vs.new, St.new], Nat.le_refl _, Nat.le_refl _⟩
theorem Vf.arm {v : Vs} {k : Nat} (h : Vf v k) (p : List Flt) : Vf (v.arm p) k := ⟨h.wf, h.bodies, h.dirs, Nat.zero_le _, h.round⟩
theorem Vf.restart {v : Vs} {k : Nat} (h : Vf v k) (n : Int) (cuts : List Int) : Vf (v.restart n cuts) (k + 1) := by
  have f := crash_fine h.wf n cuts
  exact ⟨f.wf, by show (v.st.crash n cuts).bodies.length ≤ _; have := f.bodies; have := h.bodies; omega, by show (v.st.crash n cuts).dirs.length ≤ _; have := f.dirs; have := h.dirs; omega, Nat.zero_le _, by show v.round + 1 ≤ _; have := h.round; omega⟩
theorem Vf.read {v : Vs} {k : Nat} (h : Vf v k) (name : ByteArray) : Vf (v.read name).2 (k + 1) := by
  unfold Vs.read; split
  · exact h.met
  · split <;> exact h.met
theorem Vf.stat {v : Vs} {k : Nat} (h : Vf v k) (name : ByteArray) : Vf (v.stat name).2 (k + 1) := by unfold Vs.stat; split <;> exact h.met
theorem Vf.list {v : Vs} {k : Nat} (h : Vf v k) : Vf v.list.2 (k + 1) := by unfold Vs.list; split <;> exact h.met
theorem Vf.create {v : Vs} {k : Nat} (h : Vf v k) (hk : k < 2097151) (name : ByteArray) (m0 m1 m2 m3 : Int) : Vf (v.create name m0 m1 m2 m3).2 (k + 1) := by
  unfold Vs.create; split
  · exact h.met
  · exact h.on (create_fine h.wf name m0 m1 m2 m3 (by have := h.bodies; omega) (by have := h.dirs; omega))
theorem Vf.rename {v : Vs} {k : Nat} (h : Vf v k) (hk : k < 2097151) (old to : ByteArray) : Vf (v.rename old to).2 (k + 1) := by
  unfold Vs.rename; split
  · exact h.met
  · exact h.on (rename_fine h.wf old to (by have := h.dirs; omega))
theorem Vf.remove {v : Vs} {k : Nat} (h : Vf v k) (hk : k < 2097151) (name : ByteArray) : Vf (v.remove name).2 (k + 1) := by
  unfold Vs.remove; split
  · exact h.met
  · exact h.on (remove_fine h.wf name (by have := h.dirs; omega))
theorem Vf.syncDir {v : Vs} {k : Nat} (h : Vf v k) : Vf v.syncDir.2 (k + 1) := by
  unfold Vs.syncDir; split
  · exact h.met
  · exact h.on (syncDir_fine h.wf)
theorem Vf.syncB {v : Vs} {k : Nat} (h : Vf v k) (n : Int) : Vf (v.syncB n).2 (k + 1) := by
  unfold Vs.syncB; split
  · exact h.met
  · exact h.on (sync_fine h.wf n)
theorem Vf.writeB {v : Vs} {k : Nat} (h : Vf v k) (n : Int) (data : ByteArray) : Vf (v.writeB n data).2 (k + 1) := by
  unfold Vs.writeB; split
  · split <;> exact h.on (append_fine h.wf n data)
  · split
    · exact h.met
    · split <;> exact h.on (append_fine h.wf n _)
theorem Vf.write {v : Vs} {k : Nat} (h : Vf v k) (x : Hd) (data : ByteArray) : Vf (v.write x data).2 (k + 1) := by
  unfold Vs.write; split
  · exact h.mono (Nat.le_succ k)
  · exact h.writeB _ _
theorem Vf.sync {v : Vs} {k : Nat} (h : Vf v k) (x : Hd) : Vf (v.sync x).2 (k + 1) := by
  unfold Vs.sync; split
  · exact h.mono (Nat.le_succ k)
  · exact h.syncB _
end Go.Proofs.YtjbphheojfclcaaGreat
