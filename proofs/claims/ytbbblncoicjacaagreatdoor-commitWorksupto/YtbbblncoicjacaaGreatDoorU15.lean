
-- Arm, Restart.
import Derived.Test.YtbbblncoicjacaaGreatDoorU10
import Derived.Test.YtbbblncoicjacaaGreatDoorU14
namespace Go.Proofs.YtbbblncoicjacaaGreatDoor
open Go.RowKit
set_option linter.unusedVariables false
variable {PS : (Nat → Prop) → Nat → St → World → Prop}
set_option maxHeartbeats 4000000 in
theorem fArm_c (C : PC PS) (G : Nat → Prop) (q : Nat) (v : Vs) (plan : List Flt) (pv : Value) (w : World) (h : PV PS G q v w) (hp : RowP w pv plan) (hpf : plan ≠ [] → ∀ k, pv.ownBlock = some k → ¬ G k) (hl : plan.length ≤ 4194304) :
    Calls Tryz.prog 9 #[.pointer (some ⟨q, 0, none⟩), pv] w fun e w' => e = .returned (.tuple #[]) ∧ VDid PS G q (v.arm plan) w w' := by
  have HA : Hid (Calls Tryz.prog 27 #[.pointer (some ⟨q, 0, none⟩), pv] w fun e w' => e = .returned (.tuple #[]) ∧ VDid PS G q (v.arm plan) w w') := arm_c C G q v plan pv w h hp hpf hl
  obtain ⟨ao, cp, hv⟩ := hp.form
  obtain ⟨n, hn⟩ : ∃ n, n = plan.length := ⟨_, rfl⟩
  rw [← hn] at hv
  subst hv
  clear h hp hpf hl hn
  go_enter Tryz.func9, Tryz.ntmps9
  go_wp2_with (go_at_call 27; refine HA.out.mono ?_; rintro e w1 ⟨rfl, hd⟩)
  go_returns
  exact ⟨rfl, hd⟩
theorem crashO (q : Nat) (w : World) : (method 329 99 (.pointer (some ⟨q, 0, none⟩)) "Crash").run Tryz.prog w = ((load ⟨q, 0, none⟩ : Sem Value) >>= fun x => match x with | .iface t' v' => method (329 - 1) t' v' "Crash" | .nilIface => runtimePanic .nilDeref | _ => stuck "method row: interface value expected").run Tryz.prog w := by kernel_rfl
end Go.Proofs.YtbbblncoicjacaaGreatDoor
