
-- What does not go together: the plain side; laws for a region that draws; isOneOf.
import Derived.Test.YtmhamlhmmkbkaaaDoorKW
import Derived.Deep.RegionHeld3
import Derived.Deep.Cut
import Derived.Deep.CutRange
namespace Go.Proofs.YtmhamlhmmkbkaaaDoor
open Go.ChangeShapes Go.WideShapes Go.ChangeAt Go.RowKit Go.MapKept Go.Shelf
set_option linter.unusedVariables false
set_option maxRecDepth 100000
set_option linter.unusedSimpArgs false
/-- a call behind a guard, as a step of a region -/
theorem ready_callG {P : Program} {ops : Array Oper} {o : Oper} {a : Act} {w : World} {K : Act → World → Prop} {Q : Exit → Act → World → Prop} {u : Bool} {r : Value} {f : FuncId} {x y : Operand} {ts : Array TypeId} {p q : Value}
    (hw : Region.wanted o (yielded ops a.tmps) = u) (hop : o.op = Op.call { callee := Callee.value (Operand.func f), args := #[x, y], argTypes := ts })
    (hc : u = true → Calls P f #[p, q] w fun e w' => e = .returned r ∧ w' = w) (hx : u = true → a.eval x = p) (hy : u = true → a.eval y = q) (eg : Enters P f) (h : K (a.put o.dst (cond u r undef)) w) :
    if Region.wanted o (yielded ops a.tmps) = true then Oper.wp P o a w K Q else K (a.put o.dst undef) w := by
  rw [hw]
  cases u with
  | false => exact h
  | true =>
    rw [if_pos rfl]
    have hr : ∀ ρ : Operand → Value, ρ (Operand.func f) = .func (.func f) #[] #[] → ρ x = p → ρ y = q → (execOp ρ o).run P w = .ok (.enter f #[p, q]) w := by
      intro ρ h1 h2 h3
      have e1 := eg #[p, q] w
      simp [execOp, hop, resolve, invoke, h1, h2, h3, e1, go_sem]
    have hr := hr a.eval rfl (hx rfl) (hy rfl)
    unfold Oper.wp
    rw [hr, Oper.upon_enter]
    refine (hc rfl).mono ?_
    rintro e w' ⟨rfl, hw'⟩
    rw [hw']
    exact h
theorem step_store_kz {P : Program} {ops : Array Oper} {o : Oper} {a : Act} {w : World} {K : Act → World → Prop} {Q : Exit → Act → World → Prop} {E : Prop} (hgd : o.guard = none) (hd : o.dst = none) (ty : TypeId) (x y : Operand) (ho : o.op = .store ty x y)
    (g off : Nat) (v : Value) (hx : a.eval x = .pointer (some ⟨g, off, none⟩)) (hy : a.eval y = v)
    (t : TypeId) (old new : Array Value) (hg : w.heap[g]? = some (.cells old t (0, 0))) (hi : (P.info? ty).map (·.size) = some v.cells.size)
    (hfit : Nat.ble (off + v.cells.size) old.size = true) (h1 : v.cells.toList.all (·.oneCell') = true) (hnew : putAt old off v.cells = new)
    (h : ∀ W : World, W.heap[g]? = some (.cells new t (0, 0)) → Kq g w W → K a W) : if Region.wanted o (yielded ops a.tmps) = true then Oper.wp P o a w K Q else E := by
  rw [if_pos (by simp [Region.wanted, hgd])]
  subst hy
  have hst : (storeVar ty ⟨g, off, none⟩ (a.eval y)).run P w = .ok () (w.setRow g new) := by
    have := run_storeCells_at (P := P) g off t (a.eval y).cells.toList 0 old w hg (by simpa using Nat.le_of_ble_eq_true hfit) (fun v hv => (List.all_eq_true.1 h1) v hv)
    cases hq : P.info? ty with
    | none => simp [hq] at hi
    | some i =>
      have hs : (a.eval y).cells.size = i.size := by simp [hq] at hi; omega
      simp only [Nat.add_zero, Array.length_toList] at this
      unfold putAt at hnew
      rw [hnew] at this
      simp [storeVar, sizeOf, typeInfo, hq, hs, this]
  unfold Oper.wp execOp
  simp only [ho, hx, Instr.storeAt, Instr.sureAddr, Sem.run_bind, Sem.run_pure, Result.andThen_ok, hst]
  have hh := h _ (setRow_heap w g old new t (0, 0) hg) (Kq.row w g new)
  have e : a.put o.dst undef = a := by rw [hd]; rfl
  rw [← e] at hh
  exact hh
theorem idx_has (l : List UInt8) (c : UInt8) : decide (0 ≤ Lib.indexByte l c) = l.contains c := by
  induction l with
  | nil => rfl
  | cons b t ih =>
    have hg := Lib.indexByte_ge t c
    rw [List.contains_cons]
    unfold Lib.indexByte
    by_cases h : b = c
    · subst h; simp
    · have h1 : (b == c) = false := beq_eq_false_iff_ne.2 h
      have h2 : (c == b) = false := beq_eq_false_iff_ne.2 fun q => h q.symm
      rw [h1, h2, Bool.false_or, ← ih, if_neg (by decide)]
      by_cases h3 : Lib.indexByte t c = -1
      · rw [h3]; rfl
      · have h4 : (Lib.indexByte t c == -1) = false := beq_eq_false_iff_ne.2 h3
        rw [h4, if_neg (by decide)]
        apply decide_eq_decide.2
        omega
theorem isOneOf_c (op : UInt8) (s : ByteArray) (w : World) : Calls Tryd.prog 27 #[.int .u8 (op.toNat : Int), .string s] w fun e w' => e = .returned (.bool ((byL s).contains op)) ∧ w' = w := by
  have H := hidK (Tryd.strings_IndexByte s (op.toNat : Int) w)
  have e1 : ((op.toNat : Int)).toNat.toUInt8 = op := by simp
  rw [e1] at H
  have e2 : decide (0 ≤ Lib.indexByte s.data.toList op) = (byL s).contains op := by
    unfold byL
    exact idx_has _ _
  obtain ⟨n, hn⟩ : ∃ n, n = Lib.indexByte s.data.toList op := ⟨_, rfl⟩
  rw [← hn] at H e2
  rw [← e2]
  clear hn e2 e1
  go_enter Tryd.func27, Tryd.ntmps27
  go_wp2_with (go_at_call 40; refine H.out.mono ?_; rintro e w1 ⟨rfl, hw1⟩; rw [hw1]; clear hw1)
  go_ret
  exact ⟨rfl, rfl⟩
end Go.Proofs.YtmhamlhmmkbkaaaDoor
