
-- The program's volume with its calls, in memory.
import Derived.Test.YtjbphheojfclcaaGreatQ1
import Derived.Test.YtjbphheojfclcaaGreatE2m
import Derived.Test.YtjbphheojfclcaaGreatMM
namespace Go.Proofs.YtjbphheojfclcaaGreat
open Go.RowKit
set_option linter.unusedVariables false
variable {PS : (Nat → Prop) → Nat → St → World → Prop}
theorem keyI (n : Int) : MapKept.IsKey (.int .i64) (.int .i64 n) := rfl
def fltV (f : Flt) : Array Value := #[.int .i64 f.at_, .int .i64 f.kind, .int .i64 f.n]
def noFlt : Flt := ⟨0, 0, 0⟩
/-- The plan as the program keeps it. -/
def PlanIn (l : Prs) (plan : List Flt) : Prop :=
  ∀ k : Int, 0 < k → (hit plan k = none → ∀ p ∈ l, p.1 ≠ .int .i64 k) ∧ ∀ f, hit plan k = some f → (Value.int .i64 k, Value.agg (fltV f)) ∈ l
def PlanAt (w : World) (m : Option Nat) (plan : List Flt) : Prop :=
  (m = none ∧ ∀ k : Int, 0 < k → hit plan k = none) ∨ ∃ b l, m = some b ∧ MapAt (.int .i64) w b l ∧ PlanIn l plan
theorem PlanAt.keep {w w' : World} {m : Option Nat} {plan : List Flt} (h : PlanAt w m plan) (hk : ∀ b, m = some b → w'.heap[b]? = w.heap[b]?) : PlanAt w' m plan := by
  rcases h with h | ⟨b, l, hm, ha, hp⟩
  · exact .inl h
  · exact .inr ⟨b, l, hm, ha.keep (hk b hm), hp⟩
theorem PlanAt.lt {w : World} {m : Option Nat} {plan : List Flt} (h : PlanAt w m plan) {b : Nat} (hb : m = some b) : b < w.heap.size := by
  rcases h with ⟨h, _⟩ | ⟨b', l, hm, ha, hp⟩
  · rw [hb] at h; cases h
  · rw [hb] at hm; cases hm; exact ha.lt
theorem PlanAt.ne {w : World} {m : Option Nat} {plan : List Flt} (h : PlanAt w m plan) {b : Nat} (hb : m = some b) {k : Nat} {cs : Array Value} {t : TypeId} {fr : Nat × Nat} (hk : w.heap[k]? = some (.cells cs t fr)) : b ≠ k := by
  rcases h with ⟨h, _⟩ | ⟨b', l, hm, ha, hp⟩
  · rw [hb] at h; cases h
  · rw [hb] at hm; cases hm; exact ha.ne_cells hk
theorem fltZero (w : World) : (zeroValue 52).run Tryz.prog w = .ok (.agg (fltV noFlt)) w := by kernel_rfl
theorem PlanAt.look {w : World} {m : Option Nat} {plan : List Flt} (h : PlanAt w m plan) (k : Int) (hk : 0 < k) :
    (Instr.lookup 91 (.map m) (.int .i64 k) false).run Tryz.prog w = .ok (.agg (fltV ((hit plan k).getD noFlt))) w := by
  rcases h with ⟨rfl, h⟩ | ⟨b, l, rfl, ha, hp⟩
  · rw [h k hk]
    have := look_nil (P := Tryz.prog) (w := w) false Tryz.underlying91 Tryz.underlying3 (keyI k) (fltZero w)
    simpa using this
  · cases hh : hit plan k with
    | none =>
      have := ha.look_no false Tryz.underlying91 Tryz.underlying3 (keyI k) ((hp k hk).1 hh) (fltZero w)
      simpa using this
    | some f =>
      have := ha.look false Tryz.underlying91 Tryz.underlying3 (keyI k) ((hp k hk).2 f hh)
      simpa using this
def volV (p : Nat) : Value := .iface 119 (.agg #[.pointer (some ⟨p, 0, none⟩)])
def fsV (p : Nat) (m : Option Nat) (v : Vs) : Array Value := #[.iface 119 (.agg #[.pointer (some ⟨p, 0, none⟩)]), .map m, .int .i64 v.cnt, .bool v.off, .int .i64 v.round]
structure PVo (PS : (Nat → Prop) → Nat → St → World → Prop) (G : Nat → Prop) (q : Nat) (v : Vs) (w : World) (p : Nat) (m : Option Nat) (Fd : Nat → Prop) : Prop where
  disk : PS Fd p v.st w
  sub : ∀ k, Fd k → G k
  nq : ¬ Fd q
  own : G q
  map : ∀ b, m = some b → G b ∧ ¬ Fd b
  blk : w.heap[q]? = some (.cells (fsV p m v) 95 (0, 0))
  plan : PlanAt w m v.plan
  low : ∀ k, G k → k < w.heap.size
/-- The program's volume with its calls: at block q, its memory in blocks of G, it is the volume v. -/
def PV (PS : (Nat → Prop) → Nat → St → World → Prop) (G : Nat → Prop) (q : Nat) (v : Vs) (w : World) : Prop := ∃ p m Fd, PVo PS G q v w p m Fd
theorem PVo.lt {G Fd : Nat → Prop} {q p : Nat} {m : Option Nat} {v : Vs} {w : World} (O : PVo PS G q v w p m Fd) : q < w.heap.size := (Array.getElem?_eq_some_iff.1 O.blk).1
theorem PVo.same (C : PC PS) {G Fd : Nat → Prop} {q p : Nat} {m : Option Nat} {v : Vs} {w w' : World} (O : PVo PS G q v w p m Fd) (hs : w.heap.size ≤ w'.heap.size) (hk : ∀ k, G k → k < w.heap.size → w'.heap[k]? = w.heap[k]?) : PVo PS G q v w' p m Fd where
  disk := C.same O.disk fun k h1 h2 => hk k (O.sub k h1) h2
  sub := O.sub
  nq := O.nq
  own := O.own
  map := O.map
  blk := (hk q O.own O.lt).trans O.blk
  plan := O.plan.keep fun b hb => hk b (O.map b hb).1 (O.plan.lt hb)
  low := fun k h => Nat.lt_of_lt_of_le (O.low k h) hs
theorem PVo.mono {G G' Fd : Nat → Prop} {q p : Nat} {m : Option Nat} {v : Vs} {w : World} (O : PVo PS G q v w p m Fd) (hG : ∀ k, G k → G' k) (hl : ∀ k, G' k → k < w.heap.size) : PVo PS G' q v w p m Fd where
  disk := O.disk
  sub := fun k hk => hG k (O.sub k hk)
  nq := O.nq
  own := hG q O.own
  map := fun b hb => ⟨hG b (O.map b hb).1, (O.map b hb).2⟩
  blk := O.blk
  plan := O.plan
  low := hl
theorem PVo.did {G Fd : Nat → Prop} {q p : Nat} {m : Option Nat} {v : Vs} {w w' : World} {st : St} (O : PVo PS G q v w p m Fd) (h : PDid PS Fd p st w w') : PVo PS (ext G w w') q (v.on st) w' p m (ext Fd w w') ∧ Kp G w w' := by
  have hq := O.lt
  have hkp : Kp G w w' := ⟨h.2.os, h.2.tape, h.2.output, h.2.size, fun k h1 h2 => h.2.block k h1 fun h3 => h2 (O.sub k h3)⟩
  have no : ∀ k, k < w.heap.size → ¬ Fd k → ¬ ext Fd w w' k := fun k h1 h2 h3 => by
    rcases h3 with h3 | h3
    · exact h2 h3
    · omega
  refine ⟨⟨h.1, fun k hk => ?_, no q hq O.nq, .inl O.own, fun b hb => ⟨.inl (O.map b hb).1, no b (O.plan.lt hb) (O.map b hb).2⟩, (h.2.block q hq O.nq).trans O.blk, O.plan.keep fun b hb => h.2.block b (O.plan.lt hb) (O.map b hb).2, fun k hk => ?_⟩, hkp⟩
  · rcases hk with hk | hk
    · exact .inl (O.sub k hk)
    · exact .inr hk
  · have := h.2.size
    rcases hk with hk | hk
    · have := O.low k hk; omega
    · omega
theorem PVo.ask {G Fd : Nat → Prop} {q p : Nat} {m : Option Nat} {v : Vs} {w w' : World} (O : PVo PS G q v w p m Fd) (h : PS Fd p v.st w' ∧ Kp Fd w w') : PVo PS G q v w' p m Fd ∧ Kp G w w' := by
  have hq := O.lt
  have hkp : Kp G w w' := ⟨h.2.os, h.2.tape, h.2.output, h.2.size, fun k h1 h2 => h.2.block k h1 fun h3 => h2 (O.sub k h3)⟩
  exact ⟨⟨h.1, O.sub, O.nq, O.own, O.map, (h.2.block q hq O.nq).trans O.blk, O.plan.keep fun b hb => h.2.block b (O.plan.lt hb) (O.map b hb).2, fun k hk => Nat.lt_of_lt_of_le (O.low k hk) h.2.size⟩, hkp⟩
/-- A cell of the volume's block is written. -/
theorem PVo.set (C : PC PS) {G Fd : Nat → Prop} {q p : Nat} {m : Option Nat} {v v' : Vs} {w : World} (O : PVo PS G q v w p m Fd) (j : Nat) (x : Value) (hst : v'.st = v.st) (hpl : v'.plan = v.plan) (hx : (fsV p m v).setIfInBounds j x = fsV p m v') : PVo PS G q v' (w.setCell ⟨q, j, none⟩ x) p m Fd ∧ Kp G w (w.setCell ⟨q, j, none⟩ x) := by
  have oth : ∀ k, k ≠ q → (w.setCell ⟨q, j, none⟩ x).heap[k]? = w.heap[k]? := fun k hk => Below.heap_setCell _ _ _ _ hk
  refine ⟨⟨?_, O.sub, O.nq, O.own, O.map, ?_, ?_, fun k hk => by simpa [World.setCell] using O.low k hk⟩, ⟨rfl, rfl, rfl, by simp [World.setCell], fun k _ hk => oth k fun e => hk (e ▸ O.own)⟩⟩
  · rw [hst]; exact C.same O.disk fun k hk _ => oth k fun e => O.nq (e ▸ hk)
  · rw [blk_set O.blk, hx]
  · rw [hpl]; exact O.plan.keep fun b hb => oth b (O.plan.ne hb O.blk)
theorem PVo.tick (C : PC PS) {G Fd : Nat → Prop} {q p : Nat} {m : Option Nat} {v : Vs} {w : World} (O : PVo PS G q v w p m Fd) : PVo PS G q v.tick (w.setCell ⟨q, 2, none⟩ (.int .i64 ((v.cnt : Int) + 1))) p m Fd ∧ Kp G w (w.setCell ⟨q, 2, none⟩ (.int .i64 ((v.cnt : Int) + 1))) :=
  O.set C 2 _ rfl rfl rfl
theorem PVo.cells {G Fd : Nat → Prop} {q p : Nat} {m : Option Nat} {v : Vs} {w : World} (O : PVo PS G q v w p m Fd) : w.cell? ⟨q, 0, none⟩ = some (.iface 119 (.agg #[.pointer (some ⟨p, 0, none⟩)])) ∧ w.cell? ⟨q, 1, none⟩ = some (.map m) ∧ w.cell? ⟨q, 2, none⟩ = some (.int .i64 v.cnt) ∧ w.cell? ⟨q, 3, none⟩ = some (.bool v.off) ∧ w.cell? ⟨q, 4, none⟩ = some (.int .i64 v.round) ∧ ∀ j, w.frozen? ⟨q, j, none⟩ = false := by
  refine ⟨?_, ?_, ?_, ?_, ?_, fun j => Lib.frozen_of_heap O.blk j⟩ <;> (rw [Lib.cell_of_heap O.blk]; rfl)
/-- What a call on it has done. -/
def VDid (PS : (Nat → Prop) → Nat → St → World → Prop) (G : Nat → Prop) (q : Nat) (v : Vs) (w w' : World) : Prop := PV PS (ext G w w') q v w' ∧ Kp G w w'
theorem PV.below (C : PC PS) {G : Nat → Prop} {q : Nat} {v : Vs} {w w' : World} (h : PV PS G q v w) (hb : Below w.heap.size w w') : PV PS G q v w' := by
  obtain ⟨p, m, Fd, O⟩ := h
  exact ⟨p, m, Fd, O.same C hb.size fun k _ hk => hb.block k hk⟩
theorem PV.same (C : PC PS) {G : Nat → Prop} {q : Nat} {v : Vs} {w w' : World} (h : PV PS G q v w) (hs : w.heap.size ≤ w'.heap.size) (hk : ∀ k, G k → k < w.heap.size → w'.heap[k]? = w.heap[k]?) : PV PS G q v w' := by
  obtain ⟨p, m, Fd, O⟩ := h
  exact ⟨p, m, Fd, O.same C hs hk⟩
theorem PV.low {G : Nat → Prop} {q : Nat} {v : Vs} {w : World} (h : PV PS G q v w) : ∀ k, G k → k < w.heap.size := by
  obtain ⟨p, m, Fd, O⟩ := h
  exact O.low
theorem PV.mono {G G' : Nat → Prop} {q : Nat} {v : Vs} {w : World} (h : PV PS G q v w) (hG : ∀ k, G k → G' k) (hl : ∀ k, G' k → k < w.heap.size) : PV PS G' q v w := by
  obtain ⟨p, m, Fd, O⟩ := h
  exact ⟨p, m, Fd, O.mono hG hl⟩
theorem ext_same {G : Nat → Prop} {w w' : World} (h : w'.heap.size = w.heap.size) : ∀ k, ext G w w' k → G k := fun k hk => by
  rcases hk with hk | hk
  · exact hk
  · omega
/-- New blocks behind it. -/
theorem VDid.below (C : PC PS) {G : Nat → Prop} {q : Nat} {v : Vs} {w w' w'' : World} (h : VDid PS G q v w w') (hb : Below w'.heap.size w' w'') : VDid PS G q v w w'' := by
  have hs := hb.size
  refine ⟨(h.1.below C hb).mono (fun k hk => ?_) (fun k hk => ?_), h.2.kept hb⟩
  · rcases hk with hk | hk
    · exact .inl hk
    · exact .inr ⟨hk.1, by omega⟩
  · rcases hk with hk | hk
    · have := h.1.low k (.inl hk); omega
    · exact hk.2
theorem VDid.of {G : Nat → Prop} {q : Nat} {v : Vs} {w w' : World} (h : PV PS G q v w') (hk : Kp G w w') : VDid PS G q v w w' :=
  ⟨h.mono (fun k hk => .inl hk) (fun k hk' => by
    rcases hk' with hk' | hk'
    · exact h.low k hk'
    · exact hk'.2), hk⟩
/-- A call behind what was done. -/
theorem VDid.then {G : Nat → Prop} {q : Nat} {v v' : Vs} {w w' w'' : World} (h : VDid PS G q v w w') (k : VDid PS (ext G w w') q v' w' w'') : VDid PS G q v' w w'' := by
  have h1 := h.2.size
  have h2 := k.2.size
  refine ⟨k.1.mono (fun i hi => ?_) (fun i hi => ?_), h.2.then k.2⟩
  · rcases hi with (hi | hi) | hi
    · exact .inl hi
    · exact .inr ⟨hi.1, by omega⟩
    · exact .inr ⟨by omega, hi.2⟩
  · rcases hi with hi | hi
    · exact k.1.low i (.inl (.inl hi))
    · exact hi.2
theorem Kp.mono' {F F' : Nat → Prop} {w w' : World} (h : Kp F w w') (hF : ∀ k, F k → F' k) : Kp F' w w' := ⟨h.os, h.tape, h.output, h.size, fun k hk hn => h.block k hk fun h' => hn (hF k h')⟩
theorem Kp.set {F : Nat → Prop} {w w' : World} (h : Kp F w w') {r : Nat} (hr : w.heap.size ≤ r) (j : Nat) (x : Value) : Kp F w (w'.setCell ⟨r, j, none⟩ x) :=
  ⟨h.os, h.tape, h.output, by simpa [World.setCell] using h.size, fun k hk hF => (Below.heap_setCell _ _ _ _ (by show k ≠ r; omega)).trans (h.block k hk hF)⟩
theorem PVo.beside (C : PC PS) {G Fd : Nat → Prop} {q p : Nat} {m : Option Nat} {v : Vs} {w : World} (O : PVo PS G q v w p m Fd) {r : Nat} (hr : ¬ G r) (j : Nat) (x : Value) : PVo PS G q v (w.setCell ⟨r, j, none⟩ x) p m Fd :=
  O.same C (by simp [World.setCell]) fun k hk _ => Below.heap_setCell _ _ _ _ (fun e => hr ((show k = r from e) ▸ hk))
/-- The fault that a call meets. -/
def Vs.fault (v : Vs) : Flt := if v.off = true then noFlt else (v.strikes).getD noFlt
end Go.Proofs.YtjbphheojfclcaaGreat
