
-- elf: giving up by panic, and the deferred closure that turns it into the refusal: contracts.
import Derived.Test.YtkmehjikllilaaaDoorRows
import Derived.WalkKit
import Derived.ProofKit
import Derived.WalkLawsBesides
import Derived.Defers
import Derived.Recover
import Derived.Laws.Pointers
import Derived.Deep.QuietTactic
import Derived.BigQuiet
namespace Go.Proofs.YtkmehjikllilaaaDoor
open Go.ChangeShapes Go.WideShapes Go.ChangeAt Go.RowKit
set_option linter.unusedVariables false
set_option maxRecDepth 100000

/-- the panic by which a reading is given up -/
def gives (e : Int) : List PanicEntry := [{ v := .iface 48 (.int .i64 e), recovered := false }]

theorem require_ok (t : Bool) (e : Int) (w : World) (ht : t = true) :
    Calls Tryd.prog 47 #[.bool t, .int .i64 e] w fun r w' => r = .returned (.tuple #[]) ∧ w' = w := by
  subst ht
  go_enter Tryd.func47, Tryd.ntmps47
  go_wp2
  go_end0
  exact ⟨rfl, rfl⟩
theorem require_no (t : Bool) (e : Int) (w : World) (ht : t = false) :
    Calls Tryd.prog 47 #[.bool t, .int .i64 e] w fun r w' => r = .panicked (gives e) ∧ w' = w := by
  subst ht
  go_enter Tryd.func47, Tryd.ntmps47
  go_wp2
  exact ⟨rfl, rfl, rfl⟩

theorem refusal_nil (w : World) :
    Calls Tryd.prog 38 #[.nilIface] w fun r w' => r = .returned (.int .i64 0) ∧ w' = w := by
  go_enter Tryd.func38, Tryd.ntmps38
  go_wp2
  go_ret
  exact ⟨rfl, rfl⟩
theorem refusal_err (e : Int) (w : World) :
    Calls Tryd.prog 38 #[.iface 48 (.int .i64 e)] w fun r w' => r = .returned (.int .i64 e) ∧ w' = w := by
  have hta : ∀ w : World, (Instr.typeAssert (.iface 48 (.int .i64 e)) 20 48 true).run Tryd.prog w = .ok (.tuple #[.int .i64 e, .bool true]) w := fun _ => by kernel_rfl
  go_enter Tryd.func38, Tryd.ntmps38
  go_wp2
  go_ret
  exact ⟨rfl, rfl⟩

theorem catch_Content (p : Addr) (x : Value) (e : Int) (w : World) (hc : w.cell? p = some x) (hz : w.frozen? p = false) :
    CallsD Tryd.prog 54 #[.pointer (some p)] (.panicking (gives e)) w fun r u' w' =>
      r = .returned (.tuple #[]) ∧ u' = .panicking [{ v := .iface 48 (.int .i64 e), recovered := true }] ∧ w' = w.setCell p (.int .i64 e) := by
  refine callsD_of_wpS Tryd.func54 rfl fun c₀ cs hu => ?_
  unfold gives at hu
  apply wpS_region
  simp [wpOpsS, go_sem, recoverD, hu, Tryd.ntmps54]
  refine (refusal_err e w).mono ?_
  rintro r w1 ⟨rfl, rfl⟩
  simp [go_sem, hc, hz, bodyPostS, results, Tryd.results54]
theorem idle_Content (p : Addr) (x : Value) (w : World) (hc : w.cell? p = some x) (hz : w.frozen? p = false) :
    CallsD Tryd.prog 54 #[.pointer (some p)] .returning w fun r u' w' => r = .returned (.tuple #[]) ∧ u' = .returning ∧ w' = w.setCell p (.int .i64 0) := by
  refine callsD_of_wpS Tryd.func54 rfl fun c₀ cs hu => ?_
  apply wpS_region
  simp [wpOpsS, go_sem, recoverD, hu, Tryd.ntmps54]
  refine (refusal_nil w).mono ?_
  rintro r w1 ⟨rfl, rfl⟩
  cases c₀
  simp_all [go_sem, bodyPostS, results, Tryd.results54]

theorem catch_Str (p : Addr) (x : Value) (e : Int) (w : World) (hc : w.cell? p = some x) (hz : w.frozen? p = false) :
    CallsD Tryd.prog 64 #[.pointer (some p)] (.panicking (gives e)) w fun r u' w' =>
      r = .returned (.tuple #[]) ∧ u' = .panicking [{ v := .iface 48 (.int .i64 e), recovered := true }] ∧ w' = w.setCell p (.int .i64 e) := by
  refine callsD_of_wpS Tryd.func64 rfl fun c₀ cs hu => ?_
  unfold gives at hu
  apply wpS_region
  simp [wpOpsS, go_sem, recoverD, hu, Tryd.ntmps64]
  refine (refusal_err e w).mono ?_
  rintro r w1 ⟨rfl, rfl⟩
  simp [go_sem, hc, hz, bodyPostS, results, Tryd.results64]
theorem idle_Str (p : Addr) (x : Value) (w : World) (hc : w.cell? p = some x) (hz : w.frozen? p = false) :
    CallsD Tryd.prog 64 #[.pointer (some p)] .returning w fun r u' w' => r = .returned (.tuple #[]) ∧ u' = .returning ∧ w' = w.setCell p (.int .i64 0) := by
  refine callsD_of_wpS Tryd.func64 rfl fun c₀ cs hu => ?_
  apply wpS_region
  simp [wpOpsS, go_sem, recoverD, hu, Tryd.ntmps64]
  refine (refusal_nil w).mono ?_
  rintro r w1 ⟨rfl, rfl⟩
  cases c₀
  simp_all [go_sem, bodyPostS, results, Tryd.results64]

theorem catch_Ident (p : Addr) (x : Value) (e : Int) (w : World) (hc : w.cell? p = some x) (hz : w.frozen? p = false) :
    CallsD Tryd.prog 37 #[.pointer (some p)] (.panicking (gives e)) w fun r u' w' =>
      r = .returned (.tuple #[]) ∧ u' = .panicking [{ v := .iface 48 (.int .i64 e), recovered := true }] ∧ w' = w.setCell p (.int .i64 e) := by
  refine callsD_of_wpS Tryd.func37 rfl fun c₀ cs hu => ?_
  unfold gives at hu
  apply wpS_region
  simp [wpOpsS, go_sem, recoverD, hu, Tryd.ntmps37]
  refine (refusal_err e w).mono ?_
  rintro r w1 ⟨rfl, rfl⟩
  simp [go_sem, hc, hz, bodyPostS, results, Tryd.results37]
theorem idle_Ident (p : Addr) (x : Value) (w : World) (hc : w.cell? p = some x) (hz : w.frozen? p = false) :
    CallsD Tryd.prog 37 #[.pointer (some p)] .returning w fun r u' w' => r = .returned (.tuple #[]) ∧ u' = .returning ∧ w' = w.setCell p (.int .i64 0) := by
  refine callsD_of_wpS Tryd.func37 rfl fun c₀ cs hu => ?_
  apply wpS_region
  simp [wpOpsS, go_sem, recoverD, hu, Tryd.ntmps37]
  refine (refusal_nil w).mono ?_
  rintro r w1 ⟨rfl, rfl⟩
  cases c₀
  simp_all [go_sem, bodyPostS, results, Tryd.results37]

theorem catch_Sections (p : Addr) (x : Value) (e : Int) (w : World) (hc : w.cell? p = some x) (hz : w.frozen? p = false) :
    CallsD Tryd.prog 40 #[.pointer (some p)] (.panicking (gives e)) w fun r u' w' =>
      r = .returned (.tuple #[]) ∧ u' = .panicking [{ v := .iface 48 (.int .i64 e), recovered := true }] ∧ w' = w.setCell p (.int .i64 e) := by
  refine callsD_of_wpS Tryd.func40 rfl fun c₀ cs hu => ?_
  unfold gives at hu
  apply wpS_region
  simp [wpOpsS, go_sem, recoverD, hu, Tryd.ntmps40]
  refine (refusal_err e w).mono ?_
  rintro r w1 ⟨rfl, rfl⟩
  simp [go_sem, hc, hz, bodyPostS, results, Tryd.results40]
theorem idle_Sections (p : Addr) (x : Value) (w : World) (hc : w.cell? p = some x) (hz : w.frozen? p = false) :
    CallsD Tryd.prog 40 #[.pointer (some p)] .returning w fun r u' w' => r = .returned (.tuple #[]) ∧ u' = .returning ∧ w' = w.setCell p (.int .i64 0) := by
  refine callsD_of_wpS Tryd.func40 rfl fun c₀ cs hu => ?_
  apply wpS_region
  simp [wpOpsS, go_sem, recoverD, hu, Tryd.ntmps40]
  refine (refusal_nil w).mono ?_
  rintro r w1 ⟨rfl, rfl⟩
  cases c₀
  simp_all [go_sem, bodyPostS, results, Tryd.results40]

end Go.Proofs.YtkmehjikllilaaaDoor
