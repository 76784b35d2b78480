
-- The calls of the device that fails: List, Stat.
import Derived.Test.YtloljimabapicaaU5
import Derived.Deep.RegionHeld3
import Derived.Deep.DrawnRows
namespace Go.Proofs.Ytloljimabapicaa
open Go.RowKit
set_option linter.unusedVariables false
variable {PS : (Nat → Prop) → Nat → St → World → Prop}
attribute [local go_sem ↓] Go.wp_at_zero Go.wp_at_succ
set_option maxHeartbeats 4000000 in
theorem dList_c (C : PC PS) (G : Nat → Prop) (q : Nat) (v : Vs) (w : World) (h : PV PS G q v w) (hw : Wf v.st) (hn : v.cnt ≤ 4194304) :
    Calls Try.prog 63 #[.pointer (some ⟨q, 0, none⟩)] w fun e w' => (∃ x, e = .returned (.tuple #[x, .int .i64 v.list.1.2]) ∧ w'.ownsRow w.heap.size 9 1 x v.list.1.1.length (strV v.list.1.1)) ∧ VDid PS G q v.list.2 w w' := by
  have HRef : Hid (Calls Try.prog 71 #[.pointer (some ⟨q, 0, none⟩)] w fun e w' => e = .returned (.int .i64 v.met.1) ∧ PV PS G q v.met.2 w' ∧ Kp G w w') := refusal_c C G q v w h hn
  have hs := met_st v
  by_cases hm : v.met.1 = 0
  · have HE : Hid (v.list = ((v.st.names, 0), v.met.2)) := by show _ = _; unfold Vs.list; rw [if_neg (by simp [hm])]
    have HV : Hid (∀ p m Fd w1, PVo PS G q v.met.2 w1 p m Fd → Kp G w w1 → Calls Try.prog 35 #[.agg #[.pointer (some ⟨p, 0, none⟩)]] w1 fun e w' => ∃ x, e = .returned (.tuple #[x, .int .i64 0]) ∧ w'.ownsRow w.heap.size 9 1 x v.st.names.length (strV v.st.names) ∧ VDid PS G q v.met.2 w w') := fun p m Fd w1 O hk => by
      refine (vList_c C G Fd q p m v.met.2 w1 O (by rw [hs]; exact hw)).mono ?_
      rintro e w' ⟨⟨x, rfl, hx⟩, O2, k2⟩
      rw [hs] at hx
      exact ⟨x, rfl, own_mono hx hk.size, VDid.of ⟨p, m, Fd, O2⟩ (hk.trans k2)⟩
    rw [hm] at HRef
    clear h hw hn hm hs
    go_enter Try.func63, Try.ntmps63
    go_wp2_with (first
      | (go_at_call 71; refine HRef.out.mono ?_; rintro e w1 ⟨rfl, ⟨p, m, Fd, O1⟩, hk1⟩; have c0 := O1.cell0)
      | (go_at_call 35; refine (HV.out p m Fd _ O1 hk1).mono ?_; rintro e w2 ⟨x, rfl, hx, hd⟩))
    go_returns
    rw [HE.out]
    exact ⟨⟨x, rfl, hx⟩, hd⟩
  · have HE : Hid (v.list = (([], v.met.1), v.met.2)) := by show _ = _; unfold Vs.list; rw [if_pos hm]
    have HOf : Hid (∀ W, PV PS G q v.met.2 W → Kp G w W → VDid PS G q v.met.2 w W) := fun W h1 h2 => VDid.of h1 h2
    have b1 : ((v.met.1 : Int) == 0) = false := by simp; omega
    obtain ⟨E, hE⟩ : ∃ E, E = v.met.1 := ⟨_, rfl⟩
    rw [← hE] at HRef HE b1
    have b2 : ((E : Int) != 0) = true := by simp [bne, b1]
    clear hm hE h hn hw hs
    go_enter Try.func63, Try.ntmps63
    go_wp2_with (go_at_call 71; refine HRef.out.mono ?_; rintro e w1 ⟨rfl, hv1, hk1⟩)
    go_returns
    rw [HE.out]
    exact ⟨⟨_, rfl, World.ownsRow_nil _ _ _ _⟩, HOf.out _ hv1 hk1⟩
end Go.Proofs.Ytloljimabapicaa
