
-- Arm, Restart.
import Derived.Test.YtjbphheojfclcaaGreatU10
import Derived.Test.YtjbphheojfclcaaGreatU14
namespace Go.Proofs.YtjbphheojfclcaaGreat
open Go.RowKit
set_option linter.unusedVariables false
variable {PS : (Nat → Prop) → Nat → St → World → Prop}
set_option maxHeartbeats 4000000 in
theorem fArm_c (C : PC PS) (G : Nat → Prop) (q : Nat) (v : Vs) (plan : List Flt) (pv : Value) (w : World) (h : PV PS G q v w) (hp : RowP w pv plan) (hpf : plan ≠ [] → ∀ k, pv.ownBlock = some k → ¬ G k) (hl : plan.length ≤ 4194304) :
    Calls Tryz.prog 16 #[.pointer (some ⟨q, 0, none⟩), pv] w fun e w' => e = .returned (.tuple #[]) ∧ VDid PS G q (v.arm plan) w w' := by
  have HA : Hid (Calls Tryz.prog 39 #[.pointer (some ⟨q, 0, none⟩), pv] w fun e w' => e = .returned (.tuple #[]) ∧ VDid PS G q (v.arm plan) w w') := arm_c C G q v plan pv w h hp hpf hl
  obtain ⟨ao, cp, hv⟩ := hp.form
  obtain ⟨n, hn⟩ : ∃ n, n = plan.length := ⟨_, rfl⟩
  rw [← hn] at hv
  subst hv
  clear h hp hpf hl hn
  go_enter Tryz.func16, Tryz.ntmps16
  go_wp2_with (go_at_call 39; refine HA.out.mono ?_; rintro e w1 ⟨rfl, hd⟩)
  go_returns
  exact ⟨rfl, hd⟩
theorem crashV (p : Nat) (w : World) : (method (306 - 1) 119 (.agg #[.pointer (some ⟨p, 0, none⟩)]) "Crash").run Tryz.prog w = .ok (26, .pointer (some ⟨p, 0, none⟩)) w := by kernel_rfl
theorem crashO (q : Nat) (w : World) : (method 306 134 (.pointer (some ⟨q, 0, none⟩)) "Crash").run Tryz.prog w = ((load ⟨q, 0, none⟩ : Sem Value) >>= fun x => match x with | .iface t' v' => method (306 - 1) t' v' "Crash" | .nilIface => runtimePanic .nilDeref | _ => stuck "method row: interface value expected").run Tryz.prog w := by kernel_rfl
theorem crashM (q p : Nat) (w : World) (h : w.cell? ⟨q, 0, none⟩ = some (.iface 119 (.agg #[.pointer (some ⟨p, 0, none⟩)]))) : (method 306 134 (.pointer (some ⟨q, 0, none⟩)) "Crash").run Tryz.prog w = .ok (26, .pointer (some ⟨p, 0, none⟩)) w := by
  rw [crashO]
  simp only [Sem.run_bind]
  rw [show (load ⟨q, 0, none⟩ : Sem Value).run Tryz.prog w = .ok (.iface 119 (.agg #[.pointer (some ⟨p, 0, none⟩)])) w from by simp [go_sem, h]]
  simp only [Result.andThen_ok]
  exact crashV p w
set_option maxHeartbeats 4000000 in
theorem fRestart_c (C : PC PS) (G : Nat → Prop) (q : Nat) (v : Vs) (n : Int) (cv : Value) (cuts : List Int) (w : World) (h : PV PS G q v w) (hw : Wf v.st) (hr : v.round ≤ 4194304) (hc : RowI w cv cuts) (hcf : cuts ≠ [] → ∀ k, cv.ownBlock = some k → ¬ G k) (hcl : cuts.length ≤ 4194304) :
    Calls Tryz.prog 19 #[.pointer (some ⟨q, 0, none⟩), .int .i64 n, cv] w fun e w' => e = .returned (.tuple #[]) ∧ VDid PS G q (v.restart n cuts) w w' := by
  have HDev : Hid (Calls Tryz.prog 41 #[.pointer (some ⟨q, 0, none⟩)] w fun e w' => e = .returned (.iface 134 (.pointer (some ⟨q, 0, none⟩))) ∧ w' = w) := device_c G q v w h
  obtain ⟨p, m, Fd, O⟩ := h
  have c0 := O.cell0
  obtain ⟨ao, cl, cp, hv⟩ : ∃ ao cl cp, cv = .slice ao cl cp := by
    rcases hc with ⟨_, ao, c, h⟩ | ⟨b, off, cap, h, _⟩
    · exact ⟨_, _, _, h⟩
    · exact ⟨_, _, _, h⟩
  have HC : Hid (Calls Tryz.prog 26 #[.pointer (some ⟨p, 0, none⟩), .int .i64 n, cv] w fun e w' => e = .returned (.tuple #[]) ∧ VDid PS G q (v.on (v.st.crash n cuts)) w w') := (C.crash Fd p v.st n cv cuts w O.disk hw hc (fun h0 k hk hF => hcf h0 k hk (O.sub k hF)) hcl).mono (by
    rintro e w' ⟨rfl, h1⟩
    exact ⟨rfl, O.changed0 C h1⟩)
  have HM : Hid ((method 306 134 (.pointer (some ⟨q, 0, none⟩)) "Crash").run Tryz.prog w = .ok (26, .pointer (some ⟨p, 0, none⟩)) w) := crashM q p w c0
  have HA : Hid (∀ W, VDid PS G q (v.on (v.st.crash n cuts)) w W → Calls Tryz.prog 39 #[.pointer (some ⟨q, 0, none⟩), .slice none 0 0] W fun e w' => e = .returned (.tuple #[]) ∧ VDid PS G q ((v.on (v.st.crash n cuts)).arm []) w w' ∧ w'.cell? ⟨q, 4, none⟩ = some (.int .i64 v.round) ∧ (w'.cell? ⟨q, 3, none⟩).isSome = true ∧ (∀ j, w'.frozen? ⟨q, j, none⟩ = false) ∧ VDid PS G q (v.restart n cuts) w ((w'.setCell ⟨q, 3, none⟩ (.bool false)).setCell ⟨q, 4, none⟩ (.int .i64 ((v.round : Int) + 1)))) := fun W hW => by
    refine (arm_c C (ext G w W) q _ [] (.slice none 0 0) W hW.1 (.inl ⟨rfl, _, _, rfl⟩) (fun h => absurd rfl h) (by simp)).mono ?_
    rintro e w' ⟨rfl, h1⟩
    have hd := hW.then h1
    obtain ⟨p', m', Fd', O'⟩ := id hd.1
    obtain ⟨k0, k1, k2, k3, k4, kf⟩ := O'.cells
    have O2 := O'.set C (v' := { (v.on (v.st.crash n cuts)).arm [] with off := false }) 3 (.bool false) rfl rfl rfl
    have O3 := O2.1.set C (v' := v.restart n cuts) 4 (.int .i64 ((v.round : Int) + 1)) rfl rfl rfl
    have hs2 : (w'.setCell ⟨q, 3, none⟩ (.bool false)).heap.size = w'.heap.size := by simp [World.setCell]
    have hs3 : ((w'.setCell ⟨q, 3, none⟩ (.bool false)).setCell ⟨q, 4, none⟩ (.int .i64 ((v.round : Int) + 1))).heap.size = w'.heap.size := by simp [World.setCell]
    refine ⟨rfl, hd, k4, by rw [k3]; rfl, kf, ⟨p', m', Fd', O3.1.mono (fun k hk => ?_) (fun k hk => ?_)⟩, ?_⟩
    · unfold ext; rw [hs3]; exact hk
    · unfold ext at hk; rw [hs3] at hk ⊢; exact hd.1.low k hk
    · have hk2 := O2.2
      have hk3 := O3.2
      refine ⟨hd.2.os, hd.2.tape, hd.2.output, by rw [hs3]; exact hd.2.size, fun k h1' h2' => ?_⟩
      have hne : k ≠ q := fun e => h2' (by rw [e]; exact O.own)
      rw [Below.heap_setCell _ _ _ _ (by show k ≠ q; exact hne), Below.heap_setCell _ _ _ _ (by show k ≠ q; exact hne)]
      exact hd.2.block k h1' h2'
  subst hv
  clear hc hcf hcl hw O
  have hm := HM.out
  go_enter Tryz.func19, Tryz.ntmps19
  go_wp2_with (first
    | (go_at_call 41; refine HDev.out.mono ?_; rintro e w0 ⟨rfl, hw0⟩; subst w0)
    | (go_at_call 26; refine HC.out.mono ?_; rintro e w1 ⟨rfl, hd⟩)
    | (go_at_call 39; refine (HA.out _ hd).mono ?_; rintro e w2 ⟨rfl, hd2, k4, k3, kf, hR⟩; have f3 := kf 3; have f4 := kf 4; obtain ⟨u3, hu3⟩ := Option.isSome_iff_exists.1 k3; clear k3 kf))
  go_returns
  exact ⟨rfl, hR⟩
end Go.Proofs.YtjbphheojfclcaaGreat
