
-- Handles: Write, Sync.
import Derived.Test.YtjbphheojfclcaaGreatU10
import Derived.Deep.DrawnRows
namespace Go.Proofs.YtjbphheojfclcaaGreat
open Go.RowKit
set_option linter.unusedVariables false
variable {PS : (Nat → Prop) → Nat → St → World → Prop}
attribute [local go_sem ↓] Go.wp_at_zero Go.wp_at_succ
theorem nilWrite (a : Addr) (w : World) : (nilAhead 306 134 (.pointer (some a)) "Write").run Tryz.prog w = .ok (some false) w := by kernel_rfl
theorem nilSync (a : Addr) (w : World) : (nilAhead 306 134 (.pointer (some a)) "Sync").run Tryz.prog w = .ok (some false) w := by kernel_rfl
set_option maxRecDepth 8000 in
set_option maxHeartbeats 8000000 in
theorem sWrite_c (C : PC PS) (G : Nat → Prop) (q : Nat) (v : Vs) (b : Nat) (x : Hd) (data : ByteArray) (w : World) (h : PV PS G q v w) (hb : FileAt w b q x) (hG : ¬ G b) (hw : Wf v.st) (hn : v.cnt ≤ 4194304) (hd : data.size ≤ 140737488355328) :
    Calls Tryz.prog 57 #[.pointer (some ⟨b, 0, none⟩), .string data] w fun e w' => ∃ ev, e = .returned (.tuple #[.int .i64 (v.write x data).1.1, ev]) ∧ EDid PS G q (v.write x data).2 w w' ⟨#[119, 114, 105, 116, 101]⟩ x.name (v.write x data).1.2 ev := by
  have HCl : Hid (Calls Tryz.prog 74 #[.pointer (some ⟨b, 0, none⟩)] w fun e w' => e = .returned (.bool (x.closed v)) ∧ Alike w w') := (hClosed_c G q v b x w h hb).mono (by rintro e w' ⟨h1, n, rfl⟩; exact ⟨h1, Alike.drewN w n⟩)
  have HFa : Hid (∀ (e : Nat) w, Calls Tryz.prog 56 #[.string ⟨#[119, 114, 105, 116, 101]⟩, .string x.name, .int .i64 e] w fun r w' => ∃ ev, r = .returned ev ∧ ErrIs w' w.heap.size ⟨#[119, 114, 105, 116, 101]⟩ x.name e ev ∧ Below w.heap.size w w') := fun e w => failed_c _ _ e w
  have HFB : Hid (FileAt w b q x) := hb
  rcases hc : x.closed v with _ | _
  · have hsh : x.shut = false := by
      unfold Hd.closed at hc
      rcases hx : x.shut with _ | _
      · rfl
      · rw [hx] at hc; simp at hc
    have HE : Hid (v.write x data = v.writeB x.body data) := by show _ = _; unfold Vs.write; rw [hc]; rfl
    have HA : Hid (∀ W, Alike w W → W.cell? ⟨b, 0, none⟩ = some (.pointer (some ⟨q, 0, none⟩)) ∧ W.cell? ⟨b, 1, none⟩ = some (.string x.name) ∧ W.cell? ⟨b, 2, none⟩ = some (.int .i64 x.body)) := fun W hA => by
      obtain ⟨d0, d1, d2, _⟩ := (hb.below hA.below).cells
      rw [hsh] at d0
      exact ⟨d0, d1, d2⟩
    have HDev : Hid (∀ W, Alike w W → Calls Tryz.prog 41 #[.pointer (some ⟨q, 0, none⟩)] W fun e w' => e = .returned (.iface 134 (.pointer (some ⟨q, 0, none⟩))) ∧ w' = W) := fun W hA => device_c G q v W (h.below C hA.below)
    have HC : Hid (∀ W, Alike w W → Calls Tryz.prog 140 #[.pointer (some ⟨q, 0, none⟩), .int .i64 x.body, .string data] W fun e w' => e = .returned (.tuple #[.int .i64 (v.writeB x.body data).1.1, .int .i64 (v.writeB x.body data).1.2]) ∧ VDid PS G q (v.writeB x.body data).2 w w' ∧ w'.cell? ⟨b, 1, none⟩ = some (.string x.name)) := fun W hA => by
      have hE : ∀ (w' : World) k, ext G W w' k → ext G w w' k := fun w' k hk => by
        rcases hk with hk | hk
        · exact .inl hk
        · rw [hA.heap] at hk; exact .inr hk
      refine (dWrite_c C G q v x.body data W (h.below C hA.below) hw hn hd).mono ?_
      rintro e w' ⟨rfl, h1, h2⟩
      have hk : Kp G w w' := (Kp.of_below hA.below).trans h2
      refine ⟨rfl, ⟨h1.mono (hE w') (fun k hk' => ?_), hk⟩, (hb.kept hk hG).cells.2.1⟩
      rcases hk' with hk' | hk'
      · exact h1.low k (.inl hk')
      · exact hk'.2
    have HB : Hid (∀ (v' : Vs) W W' (e : Nat) ev, VDid PS G q v' w W → ErrIs W' W.heap.size ⟨#[119, 114, 105, 116, 101]⟩ x.name e ev → Below W.heap.size W W' → EDid PS G q v' w W' ⟨#[119, 114, 105, 116, 101]⟩ x.name e ev) := fun v' W W' e ev h1 h2 h3 => EDid.of C h1 h2 h3
    rw [hc] at HCl
    clear h hb hG hw hn hc hsh
    go_enter Tryz.func57, Tryz.ntmps57
    go_wp2_with (go_at_call 74; refine HCl.out.mono ?_; rintro e w1 ⟨rfl, hA1⟩; obtain ⟨d0, d1, d2⟩ := HA.out w1 hA1)
    have HAL : Hid (∀ W : World, W.heap = w1.heap → W.os = w1.os → W.tape = w1.tape → W.output = w1.output → Alike w W) := fun W h1 h2 h3 h4 => ⟨h1.trans hA1.heap, h2.trans hA1.os, h3.trans hA1.tape, h4.trans hA1.output⟩
    clear hA1
    have nw := nilWrite
    have ns := nilSync
    go_region_with (first
      | (go_at_call 41; refine (HDev.out _ (HAL.out _ ?_ ?_ ?_ ?_)).mono ?_; rfl; rfl; rfl; rfl; rintro e w0 ⟨rfl, hw0⟩; subst w0)
      | (go_at_call 140; refine (HC.out _ (HAL.out _ ?_ ?_ ?_ ?_)).mono ?_; rfl; rfl; rfl; rfl; rintro e w2 ⟨rfl, hd2, d3⟩))
    all_goals
      go_wp2_with (go_at_call 56; refine (HFa.out _ _).mono ?_; rintro e w3 ⟨ev, rfl, he, hbb⟩)
      go_returns
      rw [HE.out]
      exact ⟨ev, rfl, HB.out _ _ _ _ _ hd2 he hbb⟩
  · have HE : Hid (v.write x data = ((0, 42), v)) := by show _ = _; unfold Vs.write; rw [hc]; rfl
    have HD : Hid (∀ W, Alike w W → W.cell? ⟨b, 1, none⟩ = some (.string x.name)) := fun W hA => (hb.below hA.below).cells.2.1
    have HO : Hid (∀ W W' (e : Nat) ev, Below w.heap.size w W → ErrIs W' W.heap.size ⟨#[119, 114, 105, 116, 101]⟩ x.name e ev → Below W.heap.size W W' → EDid PS G q v w W' ⟨#[119, 114, 105, 116, 101]⟩ x.name e ev) := fun W W' e ev h1 h2 h3 => EDid.still C h h1 h2 h3
    rw [hc] at HCl
    clear h hb hc hG
    go_enter Tryz.func57, Tryz.ntmps57
    go_wp2_with (first
      | (go_at_call 74; refine HCl.out.mono ?_; rintro e w1 ⟨rfl, hA1⟩; have d1 := HD.out w1 hA1)
      | (go_at_call 56; refine (HFa.out 42 _).mono ?_; rintro e w2 ⟨ev, rfl, he, hbb⟩))
    go_returns
    rw [HE.out]
    exact ⟨ev, rfl, HO.out _ _ _ _ hA1.below he hbb⟩
theorem hWrite_c (C : PC PS) (G : Nat → Prop) (q : Nat) (v : Vs) (b : Nat) (x : Hd) (data : ByteArray) (w : World) (h : PV PS G q v w) (hb : FileAt w b q x) (hG : ¬ G b) (hw : Wf v.st) (hn : v.cnt ≤ 4194304) (hd : data.size ≤ 140737488355328) :
    Calls Tryz.prog 57 #[.pointer (some ⟨b, 0, none⟩), .string data] w fun e w' => ∃ ev, e = .returned (.tuple #[.int .i64 (v.write x data).1.1, ev]) ∧ ErrIs w' w.heap.size ⟨#[119, 114, 105, 116, 101]⟩ x.name (v.write x data).1.2 ev ∧ VDid PS G q (v.write x data).2 w w' := by
  refine (sWrite_c C G q v b x data w h hb hG hw hn hd).mono ?_
  rintro e w' ⟨ev, rfl, hd⟩
  exact ⟨ev, rfl, hd.weak⟩
set_option maxRecDepth 8000 in
set_option maxHeartbeats 8000000 in
theorem sSync_c (C : PC PS) (G : Nat → Prop) (q : Nat) (v : Vs) (b : Nat) (x : Hd)  (w : World) (h : PV PS G q v w) (hb : FileAt w b q x) (hG : ¬ G b) (hw : Wf v.st) (hn : v.cnt ≤ 4194304) :
    Calls Tryz.prog 58 #[.pointer (some ⟨b, 0, none⟩)] w fun e w' => ∃ ev, e = .returned ev ∧ EDid PS G q (v.sync x).2 w w' ⟨#[115, 121, 110, 99]⟩ x.name (v.sync x).1 ev := by
  have HCl : Hid (Calls Tryz.prog 74 #[.pointer (some ⟨b, 0, none⟩)] w fun e w' => e = .returned (.bool (x.closed v)) ∧ Alike w w') := (hClosed_c G q v b x w h hb).mono (by rintro e w' ⟨h1, n, rfl⟩; exact ⟨h1, Alike.drewN w n⟩)
  have HFa : Hid (∀ (e : Nat) w, Calls Tryz.prog 56 #[.string ⟨#[115, 121, 110, 99]⟩, .string x.name, .int .i64 e] w fun r w' => ∃ ev, r = .returned ev ∧ ErrIs w' w.heap.size ⟨#[115, 121, 110, 99]⟩ x.name e ev ∧ Below w.heap.size w w') := fun e w => failed_c _ _ e w
  have HFB : Hid (FileAt w b q x) := hb
  rcases hc : x.closed v with _ | _
  · have hsh : x.shut = false := by
      unfold Hd.closed at hc
      rcases hx : x.shut with _ | _
      · rfl
      · rw [hx] at hc; simp at hc
    have HE : Hid (v.sync x = v.syncB x.body) := by show _ = _; unfold Vs.sync; rw [hc]; rfl
    have HA : Hid (∀ W, Alike w W → W.cell? ⟨b, 0, none⟩ = some (.pointer (some ⟨q, 0, none⟩)) ∧ W.cell? ⟨b, 1, none⟩ = some (.string x.name) ∧ W.cell? ⟨b, 2, none⟩ = some (.int .i64 x.body)) := fun W hA => by
      obtain ⟨d0, d1, d2, _⟩ := (hb.below hA.below).cells
      rw [hsh] at d0
      exact ⟨d0, d1, d2⟩
    have HDev : Hid (∀ W, Alike w W → Calls Tryz.prog 41 #[.pointer (some ⟨q, 0, none⟩)] W fun e w' => e = .returned (.iface 134 (.pointer (some ⟨q, 0, none⟩))) ∧ w' = W) := fun W hA => device_c G q v W (h.below C hA.below)
    have HC : Hid (∀ W, Alike w W → Calls Tryz.prog 138 #[.pointer (some ⟨q, 0, none⟩), .int .i64 x.body] W fun e w' => e = .returned (.int .i64 (v.syncB x.body).1) ∧ VDid PS G q (v.syncB x.body).2 w w' ∧ w'.cell? ⟨b, 1, none⟩ = some (.string x.name)) := fun W hA => by
      have hE : ∀ (w' : World) k, ext G W w' k → ext G w w' k := fun w' k hk => by
        rcases hk with hk | hk
        · exact .inl hk
        · rw [hA.heap] at hk; exact .inr hk
      refine (dSync_c C G q v x.body  W (h.below C hA.below) hw hn).mono ?_
      rintro e w' ⟨rfl, h1, h2⟩
      have hk : Kp G w w' := (Kp.of_below hA.below).trans h2
      refine ⟨rfl, ⟨h1.mono (hE w') (fun k hk' => ?_), hk⟩, (hb.kept hk hG).cells.2.1⟩
      rcases hk' with hk' | hk'
      · exact h1.low k (.inl hk')
      · exact hk'.2
    have HB : Hid (∀ (v' : Vs) W W' (e : Nat) ev, VDid PS G q v' w W → ErrIs W' W.heap.size ⟨#[115, 121, 110, 99]⟩ x.name e ev → Below W.heap.size W W' → EDid PS G q v' w W' ⟨#[115, 121, 110, 99]⟩ x.name e ev) := fun v' W W' e ev h1 h2 h3 => EDid.of C h1 h2 h3
    rw [hc] at HCl
    clear h hb hG hw hn hc hsh
    go_enter Tryz.func58, Tryz.ntmps58
    go_wp2_with (go_at_call 74; refine HCl.out.mono ?_; rintro e w1 ⟨rfl, hA1⟩; obtain ⟨d0, d1, d2⟩ := HA.out w1 hA1)
    have HAL : Hid (∀ W : World, W.heap = w1.heap → W.os = w1.os → W.tape = w1.tape → W.output = w1.output → Alike w W) := fun W h1 h2 h3 h4 => ⟨h1.trans hA1.heap, h2.trans hA1.os, h3.trans hA1.tape, h4.trans hA1.output⟩
    clear hA1
    have nw := nilWrite
    have ns := nilSync
    go_region_with (first
      | (go_at_call 41; refine (HDev.out _ (HAL.out _ ?_ ?_ ?_ ?_)).mono ?_; rfl; rfl; rfl; rfl; rintro e w0 ⟨rfl, hw0⟩; subst w0)
      | (go_at_call 138; refine (HC.out _ (HAL.out _ ?_ ?_ ?_ ?_)).mono ?_; rfl; rfl; rfl; rfl; rintro e w2 ⟨rfl, hd2, d3⟩)
      | (go_at_call 56; refine (HFa.out _ _).mono ?_; rintro e w3 ⟨ev, rfl, he, hbb⟩))
    all_goals
      go_wp2
      go_returns
      rw [HE.out]
      exact ⟨ev, rfl, HB.out _ _ _ _ _ (hd2.below C (Alike.below ⟨rfl, rfl, rfl, rfl⟩)) he hbb⟩
  · have HE : Hid (v.sync x = (42, v)) := by show _ = _; unfold Vs.sync; rw [hc]; rfl
    have HD : Hid (∀ W, Alike w W → W.cell? ⟨b, 1, none⟩ = some (.string x.name)) := fun W hA => (hb.below hA.below).cells.2.1
    have HO : Hid (∀ W W' (e : Nat) ev, Below w.heap.size w W → ErrIs W' W.heap.size ⟨#[115, 121, 110, 99]⟩ x.name e ev → Below W.heap.size W W' → EDid PS G q v w W' ⟨#[115, 121, 110, 99]⟩ x.name e ev) := fun W W' e ev h1 h2 h3 => EDid.still C h h1 h2 h3
    rw [hc] at HCl
    clear h hb hc hG
    go_enter Tryz.func58, Tryz.ntmps58
    go_wp2_with (first
      | (go_at_call 74; refine HCl.out.mono ?_; rintro e w1 ⟨rfl, hA1⟩; have d1 := HD.out w1 hA1)
      | (go_at_call 56; refine (HFa.out 42 _).mono ?_; rintro e w2 ⟨ev, rfl, he, hbb⟩))
    go_returns
    rw [HE.out]
    exact ⟨ev, rfl, HO.out _ _ _ _ hA1.below he hbb⟩
theorem hSync_c (C : PC PS) (G : Nat → Prop) (q : Nat) (v : Vs) (b : Nat) (x : Hd)  (w : World) (h : PV PS G q v w) (hb : FileAt w b q x) (hG : ¬ G b) (hw : Wf v.st) (hn : v.cnt ≤ 4194304) :
    Calls Tryz.prog 58 #[.pointer (some ⟨b, 0, none⟩)] w fun e w' => ∃ ev, e = .returned ev ∧ ErrIs w' w.heap.size ⟨#[115, 121, 110, 99]⟩ x.name (v.sync x).1 ev ∧ VDid PS G q (v.sync x).2 w w' := by
  refine (sSync_c C G q v b x w h hb hG hw hn).mono ?_
  rintro e w' ⟨ev, rfl, hd⟩
  exact ⟨ev, rfl, hd.weak⟩
end Go.Proofs.YtjbphheojfclcaaGreat
