
-- The calls of the device that fails: List, Stat.
import Derived.Test.YtjbphheojfclcaaGreatU5
import Derived.Deep.RegionHeld3
import Derived.Deep.DrawnRows
namespace Go.Proofs.YtjbphheojfclcaaGreat
open Go.RowKit
set_option linter.unusedVariables false
variable {PS : (Nat → Prop) → Nat → St → World → Prop}
attribute [local go_sem ↓] Go.wp_at_zero Go.wp_at_succ
set_option maxHeartbeats 4000000 in
theorem dList_c (C : PC PS) (G : Nat → Prop) (q : Nat) (v : Vs) (w : World) (h : PV PS G q v w) (hw : Wf v.st) (hn : v.cnt ≤ 4194304) :
    Calls Tryz.prog 133 #[.pointer (some ⟨q, 0, none⟩)] w fun e w' => (∃ x, e = .returned (.tuple #[x, .int .i64 v.list.1.2]) ∧ w'.ownsRow w.heap.size 9 1 x v.list.1.1.length (strV v.list.1.1)) ∧ VDid PS G q v.list.2 w w' := by
  have HRef : Hid (Calls Tryz.prog 141 #[.pointer (some ⟨q, 0, none⟩)] w fun e w' => e = .returned (.int .i64 v.met.1) ∧ PV PS G q v.met.2 w' ∧ Kp G w w') := refusal_c C G q v w h hn
  have hs := met_st v
  by_cases hm : v.met.1 = 0
  · have HE : Hid (v.list = ((v.st.names, 0), v.met.2)) := by show _ = _; unfold Vs.list; rw [if_neg (by simp [hm])]
    have HV : Hid (∀ p m Fd w1, PVo PS G q v.met.2 w1 p m Fd → Kp G w w1 → Calls Tryz.prog 126 #[.agg #[.pointer (some ⟨p, 0, none⟩)]] w1 fun e w' => ∃ x, e = .returned (.tuple #[x, .int .i64 0]) ∧ w'.ownsRow w.heap.size 9 1 x v.st.names.length (strV v.st.names) ∧ VDid PS G q v.met.2 w w') := fun p m Fd w1 O hk => by
      refine (vList_c C G Fd q p m v.met.2 w1 O (by rw [hs]; exact hw)).mono ?_
      rintro e w' ⟨⟨x, rfl, hx⟩, O2, k2⟩
      rw [hs] at hx
      exact ⟨x, rfl, own_mono hx hk.size, VDid.of ⟨p, m, Fd, O2⟩ (hk.trans k2)⟩
    rw [hm] at HRef
    clear h hw hn hm hs
    go_enter Tryz.func133, Tryz.ntmps133
    go_wp2_with (first
      | (go_at_call 141; refine HRef.out.mono ?_; rintro e w1 ⟨rfl, ⟨p, m, Fd, O1⟩, hk1⟩; have c0 := O1.cell0)
      | (go_at_call 126; refine (HV.out p m Fd _ O1 hk1).mono ?_; rintro e w2 ⟨x, rfl, hx, hd⟩))
    go_returns
    rw [HE.out]
    exact ⟨⟨x, rfl, hx⟩, hd⟩
  · have HE : Hid (v.list = (([], v.met.1), v.met.2)) := by show _ = _; unfold Vs.list; rw [if_pos hm]
    have HOf : Hid (∀ W, PV PS G q v.met.2 W → Kp G w W → VDid PS G q v.met.2 w W) := fun W h1 h2 => VDid.of h1 h2
    have b1 : ((v.met.1 : Int) == 0) = false := by simp; omega
    obtain ⟨E, hE⟩ : ∃ E, E = v.met.1 := ⟨_, rfl⟩
    rw [← hE] at HRef HE b1
    have b2 : ((E : Int) != 0) = true := by simp [bne, b1]
    clear hm hE h hn hw hs
    go_enter Tryz.func133, Tryz.ntmps133
    go_wp2_with (go_at_call 141; refine HRef.out.mono ?_; rintro e w1 ⟨rfl, hv1, hk1⟩)
    go_returns
    rw [HE.out]
    exact ⟨⟨_, rfl, World.ownsRow_nil _ _ _ _⟩, HOf.out _ hv1 hk1⟩
def stV (v : Vs) (name : ByteArray) : Array Value := #[.int .i64 (v.stat name).1.1.2.date, .int .i64 (v.stat name).1.1.2.uid, .int .i64 (v.stat name).1.1.2.gid, .int .i64 (v.stat name).1.1.2.mode, .string (v.stat name).1.1.1, .int .i64 (v.stat name).1.1.2.data.size]
set_option maxHeartbeats 4000000 in
theorem dStat_c (C : PC PS) (G : Nat → Prop) (q : Nat) (v : Vs) (name : ByteArray) (w : World) (h : PV PS G q v w) (hw : Wf v.st) (hn : v.cnt ≤ 4194304) :
    Calls Tryz.prog 137 #[.pointer (some ⟨q, 0, none⟩), .string name] w fun e w' => e = .returned (.tuple #[.agg (stV v name), .int .i64 (v.stat name).1.2]) ∧ VDid PS G q (v.stat name).2 w w' := by
  obtain ⟨X, hX⟩ : ∃ X, X = Obj.cells #[.int .i64 0, .int .i64 0, .int .i64 0, .int .i64 0, .string ⟨#[]⟩, .int .i64 0] 29 := ⟨_, rfl⟩
  have hbA : Below w.heap.size w (w.alloc X) := (Below.refl _ w).alloc (Nat.le_refl _) X
  have hsA : (w.alloc X).heap.size = w.heap.size + 1 := by simp
  have HRef : Hid (Calls Tryz.prog 141 #[.pointer (some ⟨q, 0, none⟩)] (w.alloc X) fun e w' => e = .returned (.int .i64 v.met.1) ∧ PV PS G q v.met.2 w' ∧ Kp G w w' ∧ w'.heap[w.heap.size]? = some (.cells #[.int .i64 0, .int .i64 0, .int .i64 0, .int .i64 0, .string ⟨#[]⟩, .int .i64 0] 29 (0, 0)) ∧ w.heap.size < w'.heap.size) := (refusal_c C G q v _ (h.below C hbA) hn).mono (by
    rintro e w' ⟨rfl, h1, h2⟩
    refine ⟨rfl, h1, (Kp.of_below hbA).trans h2, ?_, by have := h2.size; omega⟩
    rw [h2.block _ (by omega) (fun h' => by have := h.low _ h'; omega), heap_alloc_new, hX])
  have hs := met_st v
  have HN : Hid (¬ G w.heap.size) := fun h' => by have := h.low _ h'; omega
  by_cases hm : v.met.1 = 0
  · have HE : Hid (v.stat name = (((v.st.find name).1, (v.st.find name).2.2), v.met.2)) := by show _ = _; unfold Vs.stat; rw [if_neg (by simp [hm])]
    have HV : Hid (∀ p m Fd w1, PVo PS G q v.met.2 w1 p m Fd → Kp G w w1 → w1.heap[w.heap.size]? = some (.cells #[.int .i64 0, .int .i64 0, .int .i64 0, .int .i64 0, .string ⟨#[]⟩, .int .i64 0] 29 (0, 0)) → w.heap.size < w1.heap.size → Calls Tryz.prog 128 #[.agg #[.pointer (some ⟨p, 0, none⟩)], .string name] w1 fun e w' => e = .returned (.tuple #[.agg #[.int .i64 (v.st.find name).1.2.date, .int .i64 (v.st.find name).1.2.uid, .int .i64 (v.st.find name).1.2.gid, .int .i64 (v.st.find name).1.2.mode, .string (v.st.find name).1.1, .int .i64 (v.st.find name).1.2.data.size], .int .i64 (v.st.find name).2.2]) ∧ PVo PS G q v.met.2 w' p m Fd ∧ Kp G w w' ∧ w'.heap[w.heap.size]? = some (.cells #[.int .i64 0, .int .i64 0, .int .i64 0, .int .i64 0, .string ⟨#[]⟩, .int .i64 0] 29 (0, 0))) := fun p m Fd w1 O hk hx hl => by
      refine (vStat_c C G Fd q p m v.met.2 name w1 O (by rw [hs]; exact hw)).mono ?_
      rintro e w' ⟨rfl, O2, k2⟩
      rw [hs]
      exact ⟨rfl, O2, hk.trans k2, (k2.block _ hl HN.out).trans hx⟩
    rw [hm] at HRef
    have HSV : Hid (stV v name = #[.int .i64 (v.st.find name).1.2.date, .int .i64 (v.st.find name).1.2.uid, .int .i64 (v.st.find name).1.2.gid, .int .i64 (v.st.find name).1.2.mode, .string (v.st.find name).1.1, .int .i64 (v.st.find name).1.2.data.size]) := by show _ = _; unfold stV; rw [HE.out]
    have HE2 : Hid ((v.stat name).1.2 = (v.st.find name).2.2 ∧ (v.stat name).2 = v.met.2) := by show _ ∧ _; rw [HE.out]; exact ⟨rfl, rfl⟩
    clear h hw hn hm hs hbA hsA HE
    subst hX
    obtain ⟨F1, hF1⟩ : ∃ x, x = (v.st.find name).1.2.date := ⟨_, rfl⟩
    obtain ⟨F2, hF2⟩ : ∃ x, x = (v.st.find name).1.2.uid := ⟨_, rfl⟩
    obtain ⟨F3, hF3⟩ : ∃ x, x = (v.st.find name).1.2.gid := ⟨_, rfl⟩
    obtain ⟨F4, hF4⟩ : ∃ x, x = (v.st.find name).1.2.mode := ⟨_, rfl⟩
    obtain ⟨F5, hF5⟩ : ∃ x, x = (v.st.find name).1.1 := ⟨_, rfl⟩
    obtain ⟨F6, hF6⟩ : ∃ x, x = (v.st.find name).1.2.data.size := ⟨_, rfl⟩
    obtain ⟨F8, hF8⟩ : ∃ x, x = (v.st.find name).2.2 := ⟨_, rfl⟩
    rw [← hF1, ← hF2, ← hF3, ← hF4, ← hF5, ← hF6, ← hF8] at HV
    rw [← hF1, ← hF2, ← hF3, ← hF4, ← hF5, ← hF6] at HSV
    rw [← hF8] at HE2
    clear hF1 hF2 hF3 hF4 hF5 hF6 hF8
    go_enter Tryz.func137, Tryz.ntmps137
    go_wp2_with (go_at_call 141; refine HRef.out.mono ?_; rintro e w1 ⟨rfl, ⟨p, m, Fd, O1⟩, hk1, hx1, hl1⟩; have c0 := O1.cell0)
    go_at_call 128
    refine (HV.out p m Fd _ O1 hk1 hx1 hl1).mono ?_
    rintro e w2 ⟨rfl, O2, hk2, hx2⟩
    go_wp2_with (refine wpList_store_row rfl 29 _ _ rfl w.heap.size #[.int .i64 F1, .int .i64 F2, .int .i64 F3, .int .i64 F4, .string F5, .int .i64 F6] rfl rfl _ _ hx2 sizeInf4 rfl (all6 _ _ _ _ _ _) ?_)
    refine bodyPost_ret (results_cell_tmp1 rfl _ _ w.heap.size _ _ _ _ rfl (setRow_heap _ _ _ #[.int .i64 F1, .int .i64 F2, .int .i64 F3, .int .i64 F4, .string F5, .int .i64 F6] _ _ hx2) Tryz.underlying29 rfl sizeInf4) rfl ?_
    rw [HSV.out, HE2.out.1, HE2.out.2]
    obtain ⟨O3, k3⟩ := O2.row C hk2 HN.out (Nat.le_refl _) #[.int .i64 F1, .int .i64 F2, .int .i64 F3, .int .i64 F4, .string F5, .int .i64 F6]
    exact ⟨rfl, VDid.of ⟨p, m, Fd, O3⟩ k3⟩
  · have HE : Hid (v.stat name = (((⟨#[]⟩, noBd), v.met.1), v.met.2)) := by show _ = _; unfold Vs.stat; rw [if_pos hm]
    have HSV : Hid (stV v name = #[.int .i64 0, .int .i64 0, .int .i64 0, .int .i64 0, .string ⟨#[]⟩, .int .i64 0]) := by show _ = _; unfold stV; rw [HE.out]; rfl
    have b1 : ((v.met.1 : Int) == 0) = false := by simp; omega
    obtain ⟨E, hE⟩ : ∃ E, E = v.met.1 := ⟨_, rfl⟩
    rw [← hE] at HRef HE b1
    have b2 : ((E : Int) != 0) = true := by simp [bne, b1]
    clear hm hE h hn hw hs hbA hsA
    subst hX
    go_enter Tryz.func137, Tryz.ntmps137
    go_wp2_with fail
    go_at_call 141
    refine HRef.out.mono ?_
    rintro e w1 ⟨rfl, ⟨p, m, Fd, O1⟩, hk1, hx1, hl1⟩
    go_wp2_with (refine wpList_store_row rfl 29 _ _ rfl w.heap.size #[.int .i64 0, .int .i64 0, .int .i64 0, .int .i64 0, .string ⟨#[]⟩, .int .i64 0] rfl rfl _ _ hx1 sizeInf4 rfl (all6 0 0 0 0 0 ⟨#[]⟩) ?_)
    refine bodyPost_ret (results_cell_tmp1 rfl _ _ w.heap.size _ _ _ _ rfl (setRow_heap _ _ _ #[.int .i64 0, .int .i64 0, .int .i64 0, .int .i64 0, .string ⟨#[]⟩, .int .i64 0] _ _ hx1) Tryz.underlying29 rfl sizeInf4) rfl ?_
    rw [HSV.out, HE.out]
    obtain ⟨O3, k3⟩ := O1.row C hk1 HN.out (Nat.le_refl _) #[.int .i64 0, .int .i64 0, .int .i64 0, .int .i64 0, .string ⟨#[]⟩, .int .i64 0]
    exact ⟨rfl, VDid.of ⟨p, m, Fd, O3⟩ k3⟩
end Go.Proofs.YtjbphheojfclcaaGreat
