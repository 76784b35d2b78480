
-- elf: giving up by panic, and the deferred closure that turns it into the refusal: contracts.
import Derived.Test.YtmoapdecacnmpaaRows
import Derived.WalkKit
import Derived.ProofKit
import Derived.WalkLawsBesides
import Derived.Defers
import Derived.Recover
import Derived.Laws.Pointers
import Derived.Deep.QuietTactic
import Derived.BigQuiet
namespace Go.Proofs.Ytmoapdecacnmpaa
open Go.ChangeShapes Go.WideShapes Go.ChangeAt Go.RowKit
set_option linter.unusedVariables false

/-- the panic by which a reading is given up -/
def gives (e : Int) : List PanicEntry := [{ v := .iface 25 (.int .i64 e), recovered := false }]

theorem require_ok (t : Bool) (e : Int) (w : World) (ht : t = true) :
    Calls Try.prog 18 #[.bool t, .int .i64 e] w fun r w' => r = .returned (.tuple #[]) ∧ w' = w := by
  subst ht
  go_enter Try.func18, Try.ntmps18
  go_wp2
  go_end0
  exact ⟨rfl, rfl⟩
theorem require_no (t : Bool) (e : Int) (w : World) (ht : t = false) :
    Calls Try.prog 18 #[.bool t, .int .i64 e] w fun r w' => r = .panicked (gives e) ∧ w' = w := by
  subst ht
  go_enter Try.func18, Try.ntmps18
  go_wp2
  exact ⟨rfl, rfl, rfl⟩

theorem refusal_nil (w : World) :
    Calls Try.prog 12 #[.nilIface] w fun r w' => r = .returned (.int .i64 0) ∧ w' = w := by
  go_enter Try.func12, Try.ntmps12
  go_wp2
  go_ret
  exact ⟨rfl, rfl⟩
theorem refusal_err (e : Int) (w : World) :
    Calls Try.prog 12 #[.iface 25 (.int .i64 e)] w fun r w' => r = .returned (.int .i64 e) ∧ w' = w := by
  have hta : ∀ w : World, (Instr.typeAssert (.iface 25 (.int .i64 e)) 20 25 true).run Try.prog w = .ok (.tuple #[.int .i64 e, .bool true]) w := fun _ => by kernel_rfl
  go_enter Try.func12, Try.ntmps12
  go_wp2
  go_ret
  exact ⟨rfl, rfl⟩

theorem catch_Content (p : Addr) (x : Value) (e : Int) (w : World) (hc : w.cell? p = some x) (hz : w.frozen? p = false) :
    CallsD Try.prog 11 #[.pointer (some p)] (.panicking (gives e)) w fun r u' w' =>
      r = .returned (.tuple #[]) ∧ u' = .panicking [{ v := .iface 25 (.int .i64 e), recovered := true }] ∧ w' = w.setCell p (.int .i64 e) := by
  refine callsD_of_wpS Try.func11 rfl fun c₀ cs hu => ?_
  unfold gives at hu
  apply wpS_region
  simp [wpOpsS, go_sem, recoverD, hu, Try.ntmps11]
  refine (refusal_err e w).mono ?_
  rintro r w1 ⟨rfl, rfl⟩
  simp [go_sem, hc, hz, bodyPostS, results, Try.results11]
theorem idle_Content (p : Addr) (x : Value) (w : World) (hc : w.cell? p = some x) (hz : w.frozen? p = false) :
    CallsD Try.prog 11 #[.pointer (some p)] .returning w fun r u' w' => r = .returned (.tuple #[]) ∧ u' = .returning ∧ w' = w.setCell p (.int .i64 0) := by
  refine callsD_of_wpS Try.func11 rfl fun c₀ cs hu => ?_
  apply wpS_region
  simp [wpOpsS, go_sem, recoverD, hu, Try.ntmps11]
  refine (refusal_nil w).mono ?_
  rintro r w1 ⟨rfl, rfl⟩
  cases c₀
  simp_all [go_sem, bodyPostS, results, Try.results11]

theorem catch_Str (p : Addr) (x : Value) (e : Int) (w : World) (hc : w.cell? p = some x) (hz : w.frozen? p = false) :
    CallsD Try.prog 15 #[.pointer (some p)] (.panicking (gives e)) w fun r u' w' =>
      r = .returned (.tuple #[]) ∧ u' = .panicking [{ v := .iface 25 (.int .i64 e), recovered := true }] ∧ w' = w.setCell p (.int .i64 e) := by
  refine callsD_of_wpS Try.func15 rfl fun c₀ cs hu => ?_
  unfold gives at hu
  apply wpS_region
  simp [wpOpsS, go_sem, recoverD, hu, Try.ntmps15]
  refine (refusal_err e w).mono ?_
  rintro r w1 ⟨rfl, rfl⟩
  simp [go_sem, hc, hz, bodyPostS, results, Try.results15]
theorem idle_Str (p : Addr) (x : Value) (w : World) (hc : w.cell? p = some x) (hz : w.frozen? p = false) :
    CallsD Try.prog 15 #[.pointer (some p)] .returning w fun r u' w' => r = .returned (.tuple #[]) ∧ u' = .returning ∧ w' = w.setCell p (.int .i64 0) := by
  refine callsD_of_wpS Try.func15 rfl fun c₀ cs hu => ?_
  apply wpS_region
  simp [wpOpsS, go_sem, recoverD, hu, Try.ntmps15]
  refine (refusal_nil w).mono ?_
  rintro r w1 ⟨rfl, rfl⟩
  cases c₀
  simp_all [go_sem, bodyPostS, results, Try.results15]

end Go.Proofs.Ytmoapdecacnmpaa
