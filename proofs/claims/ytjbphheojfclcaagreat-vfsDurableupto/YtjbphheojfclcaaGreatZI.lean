
-- Is there a Close in a script; the volume's own calls through a Vol.
import Derived.Test.YtjbphheojfclcaaGreatZG
import Derived.Test.YtjbphheojfclcaaGreatU15
namespace Go.Proofs.YtjbphheojfclcaaGreat
open Go.RowKit
set_option linter.unusedVariables false
set_option maxRecDepth 100000
variable {PS : (Nat → Prop) → Nat → St → World → Prop}
attribute [local go_sem ↓] Go.wp_at_zero Go.wp_at_succ
def hasClose (ops : List Opv) : Bool := ops.any fun o => decide (o.kind = 10)
theorem hasClose_no {ops : List Opv} (h : hasClose ops = false) : ∀ o ∈ ops.map Opv.c, o.kind ≠ 10 := by
  intro o ho
  obtain ⟨p, hp, rfl⟩ := List.mem_map.1 ho
  unfold hasClose at h
  have := (List.any_eq_false.1 h) p hp
  simpa [Opv.c] using this
set_option maxHeartbeats 4000000 in
theorem closed_c (sv : Value) (ops : List Opv) (w : World) (hv : RowV w sv ops) (hl : ops.length ≤ 2097152) :
    Calls Tryz.prog 20 #[sv] w fun e w' => e = .returned (.bool (hasClose ops)) ∧ Below w.heap.size w w' := by
  obtain ⟨ao, cp, hvs⟩ := hv.form
  obtain ⟨n, hn⟩ : ∃ n, n = ops.length := ⟨_, rfl⟩
  have HV : Hid (RowV w sv ops) := hv
  have HNN : Hid (n = ops.length) := hn
  rw [← hn] at hvs hl
  subst hvs
  clear hn hv
  go_enter Tryz.func20, Tryz.ntmps20
  go_wp2_with fail
  go_loopw [3] (fun i wr => ∃ k : Nat, i = .int .i64 k ∧ k ≤ n ∧ (ops.take k).any (fun o => decide (o.kind = 10)) = false ∧ Below w.heap.size w wr) (fun i _ => n - (intOf i).toNat)
  case atStart => exact ⟨0, rfl, Nat.zero_le _, rfl, Below.refl _ _⟩
  case round =>
    obtain ⟨k, rfl, hkn, hno, hbw⟩ := hrel
    by_cases hk : k < n
    · have hkl : k < ops.length := by rw [← HNN.out]; exact hk
      obtain ⟨o, ho⟩ : ∃ o, ops[k]? = some o := ⟨_, List.getElem?_eq_getElem hkl⟩
      obtain ⟨b, off, rfl, hbl, hat⟩ : ∃ b off, ao = some ⟨b, off, none⟩ ∧ b < w.heap.size ∧ OpvAt w b (off + k * 10) o := by
        rcases HV.out with ⟨h0, _⟩ | ⟨b, off, cap, hv, hb, hc⟩
        · rw [h0] at hkl; simp at hkl
        · cases hv; exact ⟨b, off, rfl, hb, hc k o ho⟩
      have e0 : wr.cell? ⟨b, off + k * 10, none⟩ = some (.int .i64 o.kind) := (World.cell?_of_block (a := ⟨b, off + k * 10, none⟩) (hbw.block b hbl)).trans hat.1
      have htk : (ops.take (k + 1)).any (fun o => decide (o.kind = 10)) = decide (o.kind = 10) := by
        rw [List.take_add_one, ho, List.any_append, hno]; simp
      have HTK : Hid ((ops.take (k + 1)).any (fun o => decide (o.kind = 10)) = decide (o.kind = 10)) := htk
      have HO : Hid (ops[k]? = some o) := ho
      have HBW : Hid (Below w.heap.size w wr) := hbw
      have b1 : decide ((k : Int) < (n : Int)) = true := by simp; omega
      have i1 : (k : Int) < (n : Int) := by omega
      have i2 : (0 : Int) ≤ (k : Int) := by omega
      by_cases hc : o.kind = 10
      · have b2 : (o.kind == (10 : Int)) = true := by simp [hc]
        have hyes : hasClose ops = true := List.any_eq_true.2 ⟨o, List.mem_of_getElem? ho, by simp [hc]⟩
        have HY : Hid (hasClose ops = true) := hyes
        clear hat ho htk hbw hno hc hyes hkl
        go_wp2
        go_ret
        exact ⟨by rw [HY.out]; rfl, HBW.out⟩
      · have b2 : (o.kind == (10 : Int)) = false := by simp [hc]
        have hno3 : (ops.take (k + 1)).any (fun o => decide (o.kind = 10)) = false := by rw [htk]; simp [hc]
        have hno2 : Hid ((ops.take (k + 1)).any (fun o => decide (o.kind = 10)) = false) := hno3
        clear hat ho htk hbw hno hc hkl hno3
        go_wp2
        go_roundw
        case rel => exact ⟨k + 1, by go_num, by omega, hno2.out, HBW.out⟩
        case measure => simp [intOf]; omega
    · obtain rfl : k = n := by omega
      have b1 : decide ((k : Int) < (k : Int)) = false := by simp
      have HNO : Hid (hasClose ops = false) := by
        rw [HNN.out, List.take_length] at hno
        exact hno
      have HBW : Hid (Below w.heap.size w wr) := hbw
      clear hno hbw
      go_wp2
      go_ret
      exact ⟨by rw [HNO.out]; rfl, HBW.out⟩
/-- The volume's own calls, through a Vol. -/
theorem VA.face (C : PC PS) {S : Nat → Prop} {vb : Nat} {x : Vl} {w : World} (h : VA PS S vb x w) : ∃ q, w.cell? ⟨vb, 0, none⟩ = some (.pointer (some ⟨q, 0, none⟩)) ∧
    (∀ W plan pv, Below w.heap.size w W → RowP W pv plan → (plan ≠ [] → ∀ k, pv.ownBlock = some k → ¬ S k) → plan.length ≤ 4194304 → Calls Tryz.prog 16 #[.pointer (some ⟨q, 0, none⟩), pv] W fun e w' => e = .returned (.tuple #[]) ∧ VAD PS S vb (x.arm plan) W w') ∧
    (∀ W, Below w.heap.size w W → Calls Tryz.prog 22 #[.pointer (some ⟨q, 0, none⟩)] W fun e w' => e = .returned (.int .i64 x.v.cnt) ∧ w' = W) ∧
    (∀ W, Below w.heap.size w W → Calls Tryz.prog 23 #[.pointer (some ⟨q, 0, none⟩)] W fun e w' => e = .returned (.bool x.v.off) ∧ w' = W) := by
  obtain ⟨q, mv, G, hs, T⟩ := h
  refine ⟨q, T.cells.1, fun W plan pv hb hp hpf hl => ?_, fun W hb => fCalls_c G q x.v W (T.pp.below C hb), fun W hb => fDown_c G q x.v W (T.pp.below C hb)⟩
  have TW := T.below C hb
  refine (fArm_c C G q x.v plan pv W TW.pp hp (fun hne k hk hG => hpf hne k hk (T.sub k hG)) hl).mono ?_
  rintro e w' ⟨rfl, hd⟩
  obtain ⟨t, hk⟩ := TW.did hd
  exact ⟨rfl, ⟨_, _, _, _, t⟩, hk⟩
/-- A plan of one fault that was just made. -/
theorem rowP_one (w : World) (f : Flt) : RowP (w.alloc (.cells #[.int .i64 f.at_, .int .i64 f.kind, .int .i64 f.n] 52)) (.slice (some ⟨w.heap.size, 0, none⟩) 1 1) [f] := by
  refine .inr ⟨w.heap.size, 0, 1, rfl, by simp, fun j g hj => ?_⟩
  cases j with
  | zero =>
    simp at hj
    subst hj
    have h : (w.alloc (.cells #[.int .i64 f.at_, .int .i64 f.kind, .int .i64 f.n] 52)).heap[w.heap.size]? = some (.cells #[.int .i64 f.at_, .int .i64 f.kind, .int .i64 f.n] 52 (0, 0)) := heap_alloc_new _ _
    refine ⟨?_, ?_, ?_⟩ <;> (rw [Lib.cell_of_heap h]; rfl)
  | succ j => simp at hj
theorem rowP_nil (w : World) : RowP w (.slice none 0 0) [] := .inl ⟨rfl, none, 0, rfl⟩
end Go.Proofs.YtjbphheojfclcaaGreat
