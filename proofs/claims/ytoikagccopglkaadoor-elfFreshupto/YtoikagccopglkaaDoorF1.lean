
-- elf: giving up by panic, and the deferred closure that turns it into the refusal: contracts.
import Derived.Test.YtoikagccopglkaaDoorRows
import Derived.WalkKit
import Derived.ProofKit
import Derived.WalkLawsBesides
import Derived.Defers
import Derived.Recover
import Derived.Laws.Pointers
import Derived.Deep.QuietTactic
import Derived.BigQuiet
namespace Go.Proofs.YtoikagccopglkaaDoor
open Go.ChangeShapes Go.WideShapes Go.ChangeAt Go.RowKit
set_option linter.unusedVariables false
set_option maxRecDepth 100000

/-- the panic by which a reading is given up -/
def gives (e : Int) : List PanicEntry := [{ v := .iface 23 (.int .i64 e), recovered := false }]

theorem require_ok (t : Bool) (e : Int) (w : World) (ht : t = true) :
    Calls Tryd.prog 20 #[.bool t, .int .i64 e] w fun r w' => r = .returned (.tuple #[]) ∧ w' = w := by
  subst ht
  go_enter Tryd.func20, Tryd.ntmps20
  go_wp2
  go_end0
  exact ⟨rfl, rfl⟩
theorem require_no (t : Bool) (e : Int) (w : World) (ht : t = false) :
    Calls Tryd.prog 20 #[.bool t, .int .i64 e] w fun r w' => r = .panicked (gives e) ∧ w' = w := by
  subst ht
  go_enter Tryd.func20, Tryd.ntmps20
  go_wp2
  exact ⟨rfl, rfl, rfl⟩

theorem refusal_nil (w : World) :
    Calls Tryd.prog 11 #[.nilIface] w fun r w' => r = .returned (.int .i64 0) ∧ w' = w := by
  go_enter Tryd.func11, Tryd.ntmps11
  go_wp2
  go_ret
  exact ⟨rfl, rfl⟩
theorem refusal_err (e : Int) (w : World) :
    Calls Tryd.prog 11 #[.iface 23 (.int .i64 e)] w fun r w' => r = .returned (.int .i64 e) ∧ w' = w := by
  have hta : ∀ w : World, (Instr.typeAssert (.iface 23 (.int .i64 e)) 20 23 true).run Tryd.prog w = .ok (.tuple #[.int .i64 e, .bool true]) w := fun _ => by kernel_rfl
  go_enter Tryd.func11, Tryd.ntmps11
  go_wp2
  go_ret
  exact ⟨rfl, rfl⟩

theorem catch_Sections (p : Addr) (x : Value) (e : Int) (w : World) (hc : w.cell? p = some x) (hz : w.frozen? p = false) :
    CallsD Tryd.prog 10 #[.pointer (some p)] (.panicking (gives e)) w fun r u' w' =>
      r = .returned (.tuple #[]) ∧ u' = .panicking [{ v := .iface 23 (.int .i64 e), recovered := true }] ∧ w' = w.setCell p (.int .i64 e) := by
  refine callsD_of_wpS Tryd.func10 rfl fun c₀ cs hu => ?_
  unfold gives at hu
  apply wpS_region
  simp [wpOpsS, go_sem, recoverD, hu, Tryd.ntmps10]
  refine (refusal_err e w).mono ?_
  rintro r w1 ⟨rfl, rfl⟩
  simp [go_sem, hc, hz, bodyPostS, results, Tryd.results10]
theorem idle_Sections (p : Addr) (x : Value) (w : World) (hc : w.cell? p = some x) (hz : w.frozen? p = false) :
    CallsD Tryd.prog 10 #[.pointer (some p)] .returning w fun r u' w' => r = .returned (.tuple #[]) ∧ u' = .returning ∧ w' = w.setCell p (.int .i64 0) := by
  refine callsD_of_wpS Tryd.func10 rfl fun c₀ cs hu => ?_
  apply wpS_region
  simp [wpOpsS, go_sem, recoverD, hu, Tryd.ntmps10]
  refine (refusal_nil w).mono ?_
  rintro r w1 ⟨rfl, rfl⟩
  cases c₀
  simp_all [go_sem, bodyPostS, results, Tryd.results10]

end Go.Proofs.YtoikagccopglkaaDoor
