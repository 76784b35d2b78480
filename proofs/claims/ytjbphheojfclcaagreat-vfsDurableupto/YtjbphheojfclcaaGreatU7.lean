
-- The calls of the device that fails: Create.
import Derived.Test.YtjbphheojfclcaaGreatU6
import Derived.Deep.RegionHeld3
import Derived.Deep.RegionWith
import Derived.Deep.DrawnRows
namespace Go.Proofs.YtjbphheojfclcaaGreat
open Go.RowKit
set_option linter.unusedVariables false
variable {PS : (Nat → Prop) → Nat → St → World → Prop}
attribute [local go_sem ↓] Go.wp_at_zero Go.wp_at_succ
set_option maxHeartbeats 4000000 in
theorem dCreate_c (C : PC PS) (G : Nat → Prop) (q : Nat) (v : Vs) (name : ByteArray) (m0 m1 m2 m3 : Int) (w : World) (h : PV PS G q v w) (hw : Wf v.st) (hn : v.cnt ≤ 4194304) :
    Calls Tryz.prog 132 #[.pointer (some ⟨q, 0, none⟩), .string name, .agg #[.int .i64 m0, .int .i64 m1, .int .i64 m2, .int .i64 m3]] w fun e w' => e = .returned (.tuple #[.int .i64 (v.create name m0 m1 m2 m3).1.1, .int .i64 (v.create name m0 m1 m2 m3).1.2]) ∧ VDid PS G q (v.create name m0 m1 m2 m3).2 w w' := by
  obtain ⟨X, hX⟩ : ∃ X, X = Obj.cells #[.int .i64 m0, .int .i64 m1, .int .i64 m2, .int .i64 m3] 23 := ⟨_, rfl⟩
  have hbA : Below w.heap.size w (w.alloc X) := (Below.refl _ w).alloc (Nat.le_refl _) X
  have hsA : (w.alloc X).heap.size = w.heap.size + 1 := by simp
  have HRef : Hid (Calls Tryz.prog 141 #[.pointer (some ⟨q, 0, none⟩)] (w.alloc X) fun e w' => e = .returned (.int .i64 v.met.1) ∧ PV PS G q v.met.2 w' ∧ Kp G w w' ∧ w'.heap[w.heap.size]? = some (.cells #[.int .i64 m0, .int .i64 m1, .int .i64 m2, .int .i64 m3] 23 (0, 0))) := (refusal_c C G q v _ (h.below C hbA) hn).mono (by
    rintro e w' ⟨rfl, h1, h2⟩
    refine ⟨rfl, h1, (Kp.of_below hbA).trans h2, ?_⟩
    rw [h2.block _ (by omega) (fun h' => by have := h.low _ h'; omega), heap_alloc_new, hX])
  have hs := met_st v
  by_cases hm : v.met.1 = 0
  · have HE : Hid (v.create name m0 m1 m2 m3 = ((v.st.create name m0 m1 m2 m3).1, v.met.2.on (v.st.create name m0 m1 m2 m3).2)) := by show _ = _; unfold Vs.create; rw [if_neg (by simp [hm])]
    have HV : Hid (∀ p m Fd w1, PVo PS G q v.met.2 w1 p m Fd → Kp G w w1 → Calls Tryz.prog 50 #[.pointer (some ⟨p, 0, none⟩), .string name, .agg #[.int .i64 m0, .int .i64 m1, .int .i64 m2, .int .i64 m3]] w1 fun e w' => e = .returned (.tuple #[.int .i64 (v.st.create name m0 m1 m2 m3).1.1, .int .i64 (v.st.create name m0 m1 m2 m3).1.2]) ∧ VDid PS G q (v.met.2.on (v.st.create name m0 m1 m2 m3).2) w w') := fun p m Fd w1 O hk => by
      refine (C.create Fd p v.met.2.st name m0 m1 m2 m3 w1 O.disk (by rw [hs]; exact hw)).mono ?_
      rintro e w' ⟨rfl, h1⟩
      rw [hs] at h1 ⊢
      exact ⟨rfl, VDid.after ⟨p, m, Fd, O⟩ hk (O.changed0 C h1)⟩
    have HKE : Hid (∀ p m Fd w1, PVo PS G q v.met.2 w1 p m Fd → Kp G w w1 → w1.heap[w.heap.size]? = some (.cells #[.int .i64 m0, .int .i64 m1, .int .i64 m2, .int .i64 m3] 23 (0, 0)) → ∀ W, Below w1.heap.size w1 W → W.cell? ⟨q, 0, none⟩ = some (.iface 119 (.agg #[.pointer (some ⟨p, 0, none⟩)])) ∧ W.cell? ⟨w.heap.size, 0, none⟩ = some (.int .i64 m0) ∧ W.cell? ⟨w.heap.size, 1, none⟩ = some (.int .i64 m1) ∧ W.cell? ⟨w.heap.size, 2, none⟩ = some (.int .i64 m2) ∧ W.cell? ⟨w.heap.size, 3, none⟩ = some (.int .i64 m3) ∧ Below w1.heap.size w1 W) := fun p m Fd w1 O hk hx W hb => by
      have OW := O.same C hb.size fun k _ hk => hb.block k hk
      have hxW := (hb.block _ (Array.getElem?_eq_some_iff.1 hx).1).trans hx
      refine ⟨OW.cell0, ?_, ?_, ?_, ?_, hb⟩ <;> (rw [Lib.cell_of_heap hxW]; rfl)
    have HAL : Hid (∀ p m Fd w1 W, PVo PS G q v.met.2 w1 p m Fd → Kp G w w1 → Below w1.heap.size w1 W → PVo PS G q v.met.2 W p m Fd ∧ Kp G w W) := fun p m Fd w1 W O hk hb => ⟨O.same C hb.size fun k _ hk => hb.block k hk, hk.kept hb⟩
    rw [hm] at HRef
    clear h hw hn hm hs hbA hsA
    subst hX
    go_enter Tryz.func132, Tryz.ntmps132
    go_wp2_with (go_at_call 141; refine HRef.out.mono ?_; rintro e w1 ⟨rfl, ⟨p, m, Fd, O1⟩, hk1, hx1⟩)
    obtain ⟨c0, y0, y1, y2, y3, _⟩ := HKE.out p m Fd w1 O1 hk1 hx1 w1 (Below.refl _ _)
    have HC1 : Hid (∀ W : World, W.heap = w1.heap → W.os = w1.os → W.tape = w1.tape → W.output = w1.output → Calls Tryz.prog 50 #[.pointer (some ⟨p, 0, none⟩), .string name, .agg #[.int .i64 m0, .int .i64 m1, .int .i64 m2, .int .i64 m3]] W fun e w' => e = .returned (.tuple #[.int .i64 (v.st.create name m0 m1 m2 m3).1.1, .int .i64 (v.st.create name m0 m1 m2 m3).1.2]) ∧ VDid PS G q (v.met.2.on (v.st.create name m0 m1 m2 m3).2) w w') := fun W h1 h2 h3 h4 => by
      have hb : Below w1.heap.size w1 W := ⟨h2, h3, h4, by rw [h1]; exact Nat.le_refl _, fun k _ => by rw [h1]⟩
      exact HV.out p m Fd W (HAL.out p m Fd w1 W O1 hk1 hb).1 (HAL.out p m Fd w1 W O1 hk1 hb).2
    clear O1 hk1 hx1 HV HKE HAL
    go_region_with (first | (go_at_call 50; refine (HC1.out _ ?_ ?_ ?_ ?_).mono ?_; rfl; rfl; rfl; rfl; rintro e w2 ⟨rfl, hd⟩))
    all_goals
      go_wp2
      go_returns
      rw [HE.out]
      exact ⟨rfl, hd⟩
  · have HE : Hid (v.create name m0 m1 m2 m3 = ((0, v.met.1), v.met.2)) := by show _ = _; unfold Vs.create; rw [if_pos hm]
    have HOf : Hid (∀ W, PV PS G q v.met.2 W → Kp G w W → VDid PS G q v.met.2 w W) := fun W h1 h2 => VDid.of h1 h2
    have b1 : ((v.met.1 : Int) == 0) = false := by simp; omega
    obtain ⟨E, hE⟩ : ∃ E, E = v.met.1 := ⟨_, rfl⟩
    rw [← hE] at HRef HE b1
    have b2 : ((E : Int) != 0) = true := by simp [bne, b1]
    clear hm hE h hn hw hs hbA hsA
    subst hX
    go_enter Tryz.func132, Tryz.ntmps132
    go_wp2_with (go_at_call 141; refine HRef.out.mono ?_; rintro e w1 ⟨rfl, hv1, hk1, hx1⟩)
    go_returns
    rw [HE.out]
    exact ⟨rfl, HOf.out _ hv1 hk1⟩
end Go.Proofs.YtjbphheojfclcaaGreat
