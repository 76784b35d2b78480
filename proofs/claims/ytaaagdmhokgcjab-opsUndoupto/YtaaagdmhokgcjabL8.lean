
-- OpsUndo: the walk.
import Derived.Test.YtaaagdmhokgcjabU1
namespace Go.Proofs.Ytaaagdmhokgcjab
open Go.ChangeShapes Go.WideShapes Go.ChangeAt Go.RowKit
set_option linter.unusedVariables false
set_option maxRecDepth 100000
set_option linter.unusedSimpArgs false
theorem nthO_mem {l : List ByteArray} {q : ByteArray} (hm : q ∈ l) (h : nthO l q 0 = none) : False := by
  induction l with
  | nil => simp at hm
  | cons x r ih =>
    by_cases hx : x = q
    · rw [nthO_hit hx] at h; cases h
    · rw [nthO_miss hx, Option.map_eq_none_iff] at h
      rcases List.mem_cons.1 hm with e | e
      · exact hx e.symm
      · exact ih e h
theorem undo_ins {L X : List Mx} {pw : Int} {pa : ByteArray} {u : Bool} {p : Nat} (h1 : ∀ x ∈ X, x.n ∉ nms L) (h2 : (nms X).Nodup) (hsp : spotO L pw pa = some p) : insX L X pw pa u = L.take p ++ (X ++ L.drop p) ∧ insC L X pw pa = 0 := by
  have e := insL_fresh (u := u) h1 h2 X.length (Nat.le_refl _)
  rw [List.take_of_length_le (Nat.le_refl _)] at e
  unfold insX insC
  rw [hsp]
  refine ⟨?_, rfl⟩
  show ((insL L X u X.length).take L.length).take p ++ ((insL L X u X.length).drop L.length ++ ((insL L X u X.length).take L.length).drop p) = _
  rw [e, List.take_left, List.drop_left]
theorem undo_sub {L X : List Mx} {p : Nat} (h1 : ∀ x ∈ X, x.n ∉ nms L) : ∀ x ∈ X, x.n ∉ nms (L.take p) := by
  intro x hx hm
  obtain ⟨y, hy, e⟩ := List.mem_map.1 hm
  exact h1 x hx (List.mem_map.2 ⟨y, List.mem_of_mem_take hy, e⟩)
theorem undo_del {L X : List Mx} {p : Nat} (h1 : ∀ x ∈ X, x.n ∉ nms L) (h2 : (nms X).Nodup) : delX (L.take p ++ (X ++ L.drop p)) (nms X) = L ∧ delE (L.take p ++ (X ++ L.drop p)) (nms X) = 0 ∧ movX (L.take p ++ (X ++ L.drop p)) (nms X) 0 ⟨#[]⟩ = L ++ X ∧ movE (L.take p ++ (X ++ L.drop p)) (nms X) 0 ⟨#[]⟩ = 0 := by
  have e1 := mis_fresh (R := L.drop p) (undo_sub (p := p) h1) h2
  have e2 := fndN_fresh (R := L.drop p) (undo_sub (p := p) h1) h2
  have e3 : othersA (L.take p ++ (X ++ L.drop p)) (List.range' (L.take p).length X.length) = L := by rw [othersA_fresh, List.take_append_drop]
  have e4 := takenA_fresh (L.take p) X (L.drop p)
  have e5 : spotO L 0 ⟨#[]⟩ = some L.length := by unfold spotO; rw [if_neg (by decide), if_neg (by decide)]
  refine ⟨?_, ?_, ?_, ?_⟩
  · unfold delX; rw [e1, e2]; exact e3
  · unfold delE; rw [e1]
  · unfold movX
    simp only [e1, e2, e3, e4, e5]
    rw [List.take_of_length_le (Nat.le_refl _), List.drop_eq_nil_of_le (Nat.le_refl _), List.append_nil]
  · unfold movE
    simp only [e1, e2, e3, e5]
set_option maxHeartbeats 16000000 in
theorem opsUndo_w (v0 v1 : Value) (L M : List Mx) (pw : Int) (pa : ByteArray) (w : World) (h0 : RowM w v0 L) (h1 : RowM w v1 M) (hl : L.length ≤ 1048576) (hm : M.length ≤ 1048576) :
    Calls Try.prog 5 #[v0, v1, .agg #[.int .i64 pw, .string pa]] w fun e w' => e = .returned (.bool true) ∧ Below w.heap.size w w' := by
  obtain ⟨a0, c0, q0, _, _⟩ := h0.form
  obtain ⟨a1, c1, q1, _, _⟩ := h1.form
  obtain ⟨W0, hW0⟩ : ∃ W0, W0 = w.alloc (.cells #[.int .i64 pw, .string pa] 25) := ⟨_, rfl⟩
  have hb0 : Below w.heap.size w W0 := by rw [hW0]; exact bupK (Below.refl _ _) _
  have hP0 : W0.heap[w.heap.size]? = some (.cells #[.int .i64 pw, .string pa] 25 (0, 0)) := by rw [hW0]; exact heap_alloc_new w _
  have HV := hidK h0
  have HU := hidK h1
  have HL := hidK hl
  have HM := hidK hm
  obtain ⟨n, hnn⟩ : ∃ n, n = L.length := ⟨_, rfl⟩
  have HN := hidK hnn
  have hnb : n ≤ 1048576 := by rw [hnn]; exact hl
  have HSX := hidK (frsh_spec L M M.length (Nat.le_refl _))
  have HXL : Hid ((frsh L M M.length).length ≤ 1048576) := Nat.le_trans (frsh_len _ _ _) hm
  obtain ⟨X, hX⟩ : ∃ X, X = frsh L M M.length := ⟨_, rfl⟩
  have HX := hidK hX
  rw [← hX] at HSX HXL
  have HX1 := hidK HSX.out.1
  have HX2 := hidK HSX.out.2.2
  subst q0
  subst q1
  have HW0 := hidK hW0
  have HB0 := hidK hb0
  have HP0 := hidK hP0
  rw [← hnn] at hl HV ⊢
  have hmr := members_c (.slice a0 n c0) L pa
  have HMR := hidK hmr
  have HAN := hidK (anchored_c pw pa)
  have hcw := cell_rowK hP0 0 _ rfl
  have hca := cell_rowK hP0 1 _ rfl
  clear h0 h1 hl hm hnn hX HSX hb0 hmr hP0
  go_enter Try.func5, Try.ntmps5
  go_upto_region 1 with fail
  rw [← hW0]
  clear hW0
  by_cases hanc : ancB pw = true
  · have HAB := hidK hanc
    clear hanc
    obtain ⟨z, hz⟩ : ∃ z, z = cnt (nms L) pa := ⟨_, rfl⟩
    have HZ := hidK hz
    rw [← hz] at HMR
    clear hz
    have MR : Hid (∀ W, Below w.heap.size w W → Calls Try.prog 19 #[.slice a0 n c0, .string pa] W fun e w' => e = .returned (.int .i64 (z : Nat)) ∧ w' = W) := fun W hb => HMR.out W (HV.out.on hb) (by have := HN.out; omega)
    by_cases hz0 : z = 0
    · subst hz0
      go_upto_region 2 with (first | (go_at_call 18; refine (HAN.out _).mono ?_; rintro e w1 ⟨rfl, hb1⟩; rw [HAB.out]; have hcw1 := cell_onA hcw hb1; have hca1 := cell_onA hca hb1; have HB1 := hidK (bel3K HB0.out hb1); have HP1 := hidK (hkeepK hb1 HP0.out); clear hb1) | (go_at_call 19; refine (MR.out _ HB1.out).mono ?_; rintro e w2 ⟨rfl, rfl⟩))
      obtain ⟨p, hp⟩ : ∃ p, spotO L 0 ⟨#[]⟩ = some p := ⟨L.length, by unfold spotO; rw [if_neg (by decide), if_neg (by decide)]⟩
      have HSP := hidK hp
      clear hp
      go_upto_region 3 with (refine wpList_store_row_G rfl rfl 25 (.tmp 5) (.tmp 34) rfl w.heap.size 0 (.agg #[.int .i64 0, .string ⟨#[]⟩]) rfl rfl 25 #[.int .i64 pw, .string pa] #[.int .i64 0, .string ⟨#[]⟩] HP1.out (by kernel_rfl) rfl rfl rfl ?_; intro W3 hW3 hG3)
      have HPz := hidK hW3
      have HBz := hidK (below_some HB1.out hG3 (Nat.le_refl _) (Nat.le_refl _))
      clear hW3 hG3 HB1 HP1 hcw1 hca1
      have HUI := hidK (undo_ins (u := true) HX1.out HX2.out HSP.out)
      have HUD := hidK (undo_del (p := p) HX1.out HX2.out)
      have HUE := hidK (undo_ins (pw := 0) (pa := ⟨#[]⟩) (u := false) (p := L.length) HX1.out HX2.out (by unfold spotO; rw [if_neg (by decide), if_neg (by decide)]))
      go_upto_region 4 with (go_at_call 20; refine (fresh_c _ _ L M _ (HV.out.on HBz.out) (HU.out.on HBz.out) (by have := HN.out; omega) (by have := HM.out; omega)).mono ?_; rintro e w3 ⟨xx, rfl, hx3, hb3⟩; rw [← HX.out] at hx3)
      have Hx3 := hidK hx3.row; have HB3 := hidK (bel3K HBz.out hb3); have HP3 := hidK (hkeepK hb3 HPz.out); clear hx3 hb3 HBz HPz
      go_upto_region 5 with (go_at_call 21; refine (named_c _ X _ Hx3.out (by have := HXL.out; omega)).mono ?_; rintro e w4 ⟨nr, rfl, hn4, hb4⟩)
      have Hn4 := hidK hn4.row; have Hx4 := hidK (Hx3.out.on hb4); have HB4 := hidK (bel3K HB3.out hb4); have HP4 := hidK (hkeepK hb4 HP3.out); have hcw := cell_rowK HP4.out 0 _ rfl; have hca := cell_rowK HP4.out 1 _ rfl; clear hn4 hb4 HB3 HP3 Hx3
      go_upto_region 6 with (go_at_call 12; refine (insert_c _ _ L X 0 ⟨#[]⟩ true _ (HV.out.on HB4.out) Hx4.out (by have := HN.out; omega) (by have := HXL.out; omega)).mono ?_; rintro e w5 ⟨ar, ev5, rfl, ha5, _, hb5⟩; rw [HUI.out.1] at ha5; rw [(undo_ins (u := true) HX1.out HX2.out HSP.out).2])
      have Ha5 := hidK ha5.row; have Hn5 := hidK (Hn4.out.on hb5); have Hx5 := hidK (Hx4.out.on hb5); have HB5 := hidK (bel3K HB4.out hb5); clear ha5 hb5 HB4 HP4 Hn4 Hx4 hcw hca
      have HAL : Hid ((L.take p ++ (X ++ L.drop p)).length = n + X.length) := by
        have := HN.out; have := spotO_le HSP.out
        show _ = _
        simp only [List.length_append, List.length_take, List.length_drop]; omega
      go_upto_region 7 with (go_at_call 10; refine (delete_c _ _ (L.take p ++ (X ++ L.drop p)) (nms X) _ Ha5.out Hn5.out (by rw [HAL.out]; have := HXL.out; omega) (by rw [List.length_map]; have := HXL.out; omega)).mono ?_; rintro e w6 ⟨br, rfl, hb6r, hb6⟩; rw [HUD.out.1] at hb6r; rw [HUD.out.2.1])
      have Hb6 := hidK hb6r.row; have Ha6 := hidK (Ha5.out.on hb6); have Hn6 := hidK (Hn5.out.on hb6); have Hx6 := hidK (Hx5.out.on hb6); have HB6 := hidK (bel3K HB5.out hb6); clear hb6r hb6 HB5 Ha5 Hn5 Hx5
      go_upto_region 8 with (go_at_call 12; refine (insert_c _ _ L X 0 ⟨#[]⟩ false _ (HV.out.on HB6.out) Hx6.out (by have := HN.out; omega) (by have := HXL.out; omega)).mono ?_; rintro e w7 ⟨cr, ev7, rfl, hc7, _, hb7⟩; rw [HUE.out.1, List.take_of_length_le (Nat.le_refl _), List.drop_eq_nil_of_le (Nat.le_refl _), List.append_nil] at hc7; rw [HUE.out.2])
      have Hc7 := hidK hc7.row; have Hb7 := hidK (Hb6.out.on hb7); have Ha7 := hidK (Ha6.out.on hb7); have Hn7 := hidK (Hn6.out.on hb7); have Hx7 := hidK (Hx6.out.on hb7); have HB7 := hidK (bel3K HB6.out hb7); clear hc7 hb7 HB6 Ha6 Hn6 Hx6 Hb6
      go_upto_region 9 with (go_at_call 11; refine (move_c _ _ (L.take p ++ (X ++ L.drop p)) (nms X) 0 ⟨#[]⟩ _ Ha7.out Hn7.out (by rw [HAL.out]; have := HXL.out; omega) (by rw [List.length_map]; have := HXL.out; omega)).mono ?_; rintro e w8 ⟨dr, rfl, hd8, hb8⟩; rw [HUD.out.2.2.1] at hd8; rw [HUD.out.2.2.2])
      have Hd8 := hidK hd8.row; have Hc8 := hidK (Hc7.out.on hb8); have Hb8 := hidK (Hb7.out.on hb8); have Ha8 := hidK (Ha7.out.on hb8); have Hx8 := hidK (Hx7.out.on hb8); have HB8 := hidK (bel3K HB7.out hb8); clear hd8 hb8 HB7 Ha7 Hn7 Hx7 Hb7 Hc7
      go_upto_region 10 with (go_at_call 13; refine (append_c _ _ L X _ (HV.out.on HB8.out) Hx8.out (by have := HN.out; omega) (by have := HXL.out; omega)).mono ?_; rintro e w9 ⟨pr, rfl, hp9, hb9⟩)
      have Hp9 := hidK hp9.row; have Hd9 := hidK (Hd8.out.on hb9); have Hc9 := hidK (Hc8.out.on hb9); have Hb9 := hidK (Hb8.out.on hb9); have Ha9 := hidK (Ha8.out.on hb9); have Hx9 := hidK (Hx8.out.on hb9); have HB9 := hidK (bel3K HB8.out hb9); clear hp9 hb9 HB8 Ha8 Hx8 Hb8 Hc8 Hd8
      obtain ⟨lx, hlx⟩ : ∃ lx, lx = X.length := ⟨_, rfl⟩
      obtain ⟨aa, ca, qa, _, _⟩ := Ha9.out.form
      obtain ⟨ax, cx, qx, _, _⟩ := Hx9.out.form
      rw [HAL.out, ← hlx] at qa
      rw [← hlx] at qx
      have hlxb : lx ≤ 1048576 := by rw [hlx]; exact HXL.out
      subst qa
      subst qx
      have HLX := hidK hlx
      have hwl : IntKind.i64.wrap ((n : Int) + (lx : Int)) = (n : Int) + (lx : Int) := by rw [IntKind.wrap_i64]; omega
      clear hlx Ha9 Hx9
      go_upto_region 13 with (go_at_call 9; refine (same_c _ _ L _ Hb9.out (HV.out.on HB9.out) (by have := HN.out; omega)).mono ?_; rintro e w10 ⟨rfl, hb⟩)
      have Hp10 := hidK (Hp9.out.on hb); have Hd10 := hidK (Hd9.out.on hb); have Hc10 := hidK (Hc9.out.on hb); have HB10 := hidK (bel3K HB9.out hb); clear hb Hp9 Hd9 Hc9 Hb9 HB9
      go_upto_region 14 with (go_at_call 9; refine (same_c _ _ (L ++ X) _ Hc10.out Hp10.out (by rw [List.length_append]; have := HN.out; have := HXL.out; omega)).mono ?_; rintro e w11 ⟨rfl, hb⟩)
      have Hp11 := hidK (Hp10.out.on hb); have Hd11 := hidK (Hd10.out.on hb); have HB11 := hidK (bel3K HB10.out hb); clear hb Hp10 Hd10 Hc10 HB10
      go_wp2_with (go_at_call 9; refine (same_c _ _ (L ++ X) _ Hd11.out Hp11.out (by rw [List.length_append]; have := HN.out; have := HXL.out; omega)).mono ?_; rintro e w12 ⟨rfl, hb12⟩)
      go_ret
      exact ⟨by simp, bel3K HB11.out hb12⟩
    · obtain ⟨p, hp⟩ : ∃ p, spotO L pw pa = some p := by
        have hin : ∃ i, nthO (nms L) pa 0 = some i := by
          cases h : nthO (nms L) pa 0 with
          | some i => exact ⟨i, rfl⟩
          | none => exact absurd (HZ.out.trans (cnt_zero.2 (fun hm => nthO_mem hm h))) hz0
        obtain ⟨i, hi⟩ := hin
        have ha : pw = 1 ∨ pw = 2 := by have := HAB.out; unfold ancB at this; simpa using this
        unfold spotO
        rw [hi]
        rcases ha with e | e
        · exact ⟨i + 1, by rw [if_pos e]; rfl⟩
        · exact ⟨i, by rw [if_neg (by omega), if_pos e]⟩
      have HSP := hidK hp
      have t1 : ((z : Int) == 0) = false := by simp; omega
      have t2 : decide ((z : Int) = 0) = false := by simp; omega
      have t3 : ¬ ((z : Int) = 0) := by omega
      clear hp
      go_upto_region 3 with (first | (go_at_call 18; refine (HAN.out _).mono ?_; rintro e w1 ⟨rfl, hb1⟩; rw [HAB.out]; have hcw1 := cell_onA hcw hb1; have hca1 := cell_onA hca hb1; have HB1 := hidK (bel3K HB0.out hb1); have HP1 := hidK (hkeepK hb1 HP0.out); clear hb1) | (go_at_call 19; refine (MR.out _ HB1.out).mono ?_; rintro e w2 ⟨rfl, rfl⟩))
      clear hcw1 hca1
      have HUI := hidK (undo_ins (u := true) HX1.out HX2.out HSP.out)
      have HUD := hidK (undo_del (p := p) HX1.out HX2.out)
      have HUE := hidK (undo_ins (pw := 0) (pa := ⟨#[]⟩) (u := false) (p := L.length) HX1.out HX2.out (by unfold spotO; rw [if_neg (by decide), if_neg (by decide)]))
      go_upto_region 4 with (go_at_call 20; refine (fresh_c _ _ L M _ (HV.out.on HB1.out) (HU.out.on HB1.out) (by have := HN.out; omega) (by have := HM.out; omega)).mono ?_; rintro e w3 ⟨xx, rfl, hx3, hb3⟩; rw [← HX.out] at hx3)
      have Hx3 := hidK hx3.row; have HB3 := hidK (bel3K HB1.out hb3); have HP3 := hidK (hkeepK hb3 HP1.out); clear hx3 hb3 HB1 HP1
      go_upto_region 5 with (go_at_call 21; refine (named_c _ X _ Hx3.out (by have := HXL.out; omega)).mono ?_; rintro e w4 ⟨nr, rfl, hn4, hb4⟩)
      have Hn4 := hidK hn4.row; have Hx4 := hidK (Hx3.out.on hb4); have HB4 := hidK (bel3K HB3.out hb4); have HP4 := hidK (hkeepK hb4 HP3.out); have hcw := cell_rowK HP4.out 0 _ rfl; have hca := cell_rowK HP4.out 1 _ rfl; clear hn4 hb4 HB3 HP3 Hx3
      go_upto_region 6 with (go_at_call 12; refine (insert_c _ _ L X pw pa true _ (HV.out.on HB4.out) Hx4.out (by have := HN.out; omega) (by have := HXL.out; omega)).mono ?_; rintro e w5 ⟨ar, ev5, rfl, ha5, _, hb5⟩; rw [HUI.out.1] at ha5; rw [(undo_ins (u := true) HX1.out HX2.out HSP.out).2])
      have Ha5 := hidK ha5.row; have Hn5 := hidK (Hn4.out.on hb5); have Hx5 := hidK (Hx4.out.on hb5); have HB5 := hidK (bel3K HB4.out hb5); clear ha5 hb5 HB4 HP4 Hn4 Hx4 hcw hca
      have HAL : Hid ((L.take p ++ (X ++ L.drop p)).length = n + X.length) := by
        have := HN.out; have := spotO_le HSP.out
        show _ = _
        simp only [List.length_append, List.length_take, List.length_drop]; omega
      go_upto_region 7 with (go_at_call 10; refine (delete_c _ _ (L.take p ++ (X ++ L.drop p)) (nms X) _ Ha5.out Hn5.out (by rw [HAL.out]; have := HXL.out; omega) (by rw [List.length_map]; have := HXL.out; omega)).mono ?_; rintro e w6 ⟨br, rfl, hb6r, hb6⟩; rw [HUD.out.1] at hb6r; rw [HUD.out.2.1])
      have Hb6 := hidK hb6r.row; have Ha6 := hidK (Ha5.out.on hb6); have Hn6 := hidK (Hn5.out.on hb6); have Hx6 := hidK (Hx5.out.on hb6); have HB6 := hidK (bel3K HB5.out hb6); clear hb6r hb6 HB5 Ha5 Hn5 Hx5
      go_upto_region 8 with (go_at_call 12; refine (insert_c _ _ L X 0 ⟨#[]⟩ false _ (HV.out.on HB6.out) Hx6.out (by have := HN.out; omega) (by have := HXL.out; omega)).mono ?_; rintro e w7 ⟨cr, ev7, rfl, hc7, _, hb7⟩; rw [HUE.out.1, List.take_of_length_le (Nat.le_refl _), List.drop_eq_nil_of_le (Nat.le_refl _), List.append_nil] at hc7; rw [HUE.out.2])
      have Hc7 := hidK hc7.row; have Hb7 := hidK (Hb6.out.on hb7); have Ha7 := hidK (Ha6.out.on hb7); have Hn7 := hidK (Hn6.out.on hb7); have Hx7 := hidK (Hx6.out.on hb7); have HB7 := hidK (bel3K HB6.out hb7); clear hc7 hb7 HB6 Ha6 Hn6 Hx6 Hb6
      go_upto_region 9 with (go_at_call 11; refine (move_c _ _ (L.take p ++ (X ++ L.drop p)) (nms X) 0 ⟨#[]⟩ _ Ha7.out Hn7.out (by rw [HAL.out]; have := HXL.out; omega) (by rw [List.length_map]; have := HXL.out; omega)).mono ?_; rintro e w8 ⟨dr, rfl, hd8, hb8⟩; rw [HUD.out.2.2.1] at hd8; rw [HUD.out.2.2.2])
      have Hd8 := hidK hd8.row; have Hc8 := hidK (Hc7.out.on hb8); have Hb8 := hidK (Hb7.out.on hb8); have Ha8 := hidK (Ha7.out.on hb8); have Hx8 := hidK (Hx7.out.on hb8); have HB8 := hidK (bel3K HB7.out hb8); clear hd8 hb8 HB7 Ha7 Hn7 Hx7 Hb7 Hc7
      go_upto_region 10 with (go_at_call 13; refine (append_c _ _ L X _ (HV.out.on HB8.out) Hx8.out (by have := HN.out; omega) (by have := HXL.out; omega)).mono ?_; rintro e w9 ⟨pr, rfl, hp9, hb9⟩)
      have Hp9 := hidK hp9.row; have Hd9 := hidK (Hd8.out.on hb9); have Hc9 := hidK (Hc8.out.on hb9); have Hb9 := hidK (Hb8.out.on hb9); have Ha9 := hidK (Ha8.out.on hb9); have Hx9 := hidK (Hx8.out.on hb9); have HB9 := hidK (bel3K HB8.out hb9); clear hp9 hb9 HB8 Ha8 Hx8 Hb8 Hc8 Hd8
      obtain ⟨lx, hlx⟩ : ∃ lx, lx = X.length := ⟨_, rfl⟩
      obtain ⟨aa, ca, qa, _, _⟩ := Ha9.out.form
      obtain ⟨ax, cx, qx, _, _⟩ := Hx9.out.form
      rw [HAL.out, ← hlx] at qa
      rw [← hlx] at qx
      have hlxb : lx ≤ 1048576 := by rw [hlx]; exact HXL.out
      subst qa
      subst qx
      have HLX := hidK hlx
      have hwl : IntKind.i64.wrap ((n : Int) + (lx : Int)) = (n : Int) + (lx : Int) := by rw [IntKind.wrap_i64]; omega
      clear hlx Ha9 Hx9
      go_upto_region 13 with (go_at_call 9; refine (same_c _ _ L _ Hb9.out (HV.out.on HB9.out) (by have := HN.out; omega)).mono ?_; rintro e w10 ⟨rfl, hb⟩)
      have Hp10 := hidK (Hp9.out.on hb); have Hd10 := hidK (Hd9.out.on hb); have Hc10 := hidK (Hc9.out.on hb); have HB10 := hidK (bel3K HB9.out hb); clear hb Hp9 Hd9 Hc9 Hb9 HB9
      go_upto_region 14 with (go_at_call 9; refine (same_c _ _ (L ++ X) _ Hc10.out Hp10.out (by rw [List.length_append]; have := HN.out; have := HXL.out; omega)).mono ?_; rintro e w11 ⟨rfl, hb⟩)
      have Hp11 := hidK (Hp10.out.on hb); have Hd11 := hidK (Hd10.out.on hb); have HB11 := hidK (bel3K HB10.out hb); clear hb Hp10 Hd10 Hc10 HB10
      go_wp2_with (go_at_call 9; refine (same_c _ _ (L ++ X) _ Hd11.out Hp11.out (by rw [List.length_append]; have := HN.out; have := HXL.out; omega)).mono ?_; rintro e w12 ⟨rfl, hb12⟩)
      go_ret
      exact ⟨by simp, bel3K HB11.out hb12⟩
  · have hanc2 : ancB pw = false := by simpa using hanc
    have HAB := hidK hanc2
    obtain ⟨p, hp⟩ : ∃ p, spotO L pw pa = some p := by
      have ha : ¬ (pw = 1 ∨ pw = 2) := by intro e; apply hanc; unfold ancB; simpa using e
      exact ⟨L.length, by unfold spotO; rw [if_neg (fun e => ha (.inl e)), if_neg (fun e => ha (.inr e))]⟩
    have HSP := hidK hp
    clear hp hanc hanc2
    go_upto_region 3 with (go_at_call 18; refine (HAN.out _).mono ?_; rintro e w1 ⟨rfl, hb1⟩; rw [HAB.out]; have hcw1 := cell_onA hcw hb1; have hca1 := cell_onA hca hb1; have HB1 := hidK (bel3K HB0.out hb1); have HP1 := hidK (hkeepK hb1 HP0.out); clear hb1)
    clear hcw1 hca1
    have HUI := hidK (undo_ins (u := true) HX1.out HX2.out HSP.out)
    have HUD := hidK (undo_del (p := p) HX1.out HX2.out)
    have HUE := hidK (undo_ins (pw := 0) (pa := ⟨#[]⟩) (u := false) (p := L.length) HX1.out HX2.out (by unfold spotO; rw [if_neg (by decide), if_neg (by decide)]))
    go_upto_region 4 with (go_at_call 20; refine (fresh_c _ _ L M _ (HV.out.on HB1.out) (HU.out.on HB1.out) (by have := HN.out; omega) (by have := HM.out; omega)).mono ?_; rintro e w3 ⟨xx, rfl, hx3, hb3⟩; rw [← HX.out] at hx3)
    have Hx3 := hidK hx3.row; have HB3 := hidK (bel3K HB1.out hb3); have HP3 := hidK (hkeepK hb3 HP1.out); clear hx3 hb3 HB1 HP1
    go_upto_region 5 with (go_at_call 21; refine (named_c _ X _ Hx3.out (by have := HXL.out; omega)).mono ?_; rintro e w4 ⟨nr, rfl, hn4, hb4⟩)
    have Hn4 := hidK hn4.row; have Hx4 := hidK (Hx3.out.on hb4); have HB4 := hidK (bel3K HB3.out hb4); have HP4 := hidK (hkeepK hb4 HP3.out); have hcw := cell_rowK HP4.out 0 _ rfl; have hca := cell_rowK HP4.out 1 _ rfl; clear hn4 hb4 HB3 HP3 Hx3
    go_upto_region 6 with (go_at_call 12; refine (insert_c _ _ L X pw pa true _ (HV.out.on HB4.out) Hx4.out (by have := HN.out; omega) (by have := HXL.out; omega)).mono ?_; rintro e w5 ⟨ar, ev5, rfl, ha5, _, hb5⟩; rw [HUI.out.1] at ha5; rw [(undo_ins (u := true) HX1.out HX2.out HSP.out).2])
    have Ha5 := hidK ha5.row; have Hn5 := hidK (Hn4.out.on hb5); have Hx5 := hidK (Hx4.out.on hb5); have HB5 := hidK (bel3K HB4.out hb5); clear ha5 hb5 HB4 HP4 Hn4 Hx4 hcw hca
    have HAL : Hid ((L.take p ++ (X ++ L.drop p)).length = n + X.length) := by
      have := HN.out; have := spotO_le HSP.out
      show _ = _
      simp only [List.length_append, List.length_take, List.length_drop]; omega
    go_upto_region 7 with (go_at_call 10; refine (delete_c _ _ (L.take p ++ (X ++ L.drop p)) (nms X) _ Ha5.out Hn5.out (by rw [HAL.out]; have := HXL.out; omega) (by rw [List.length_map]; have := HXL.out; omega)).mono ?_; rintro e w6 ⟨br, rfl, hb6r, hb6⟩; rw [HUD.out.1] at hb6r; rw [HUD.out.2.1])
    have Hb6 := hidK hb6r.row; have Ha6 := hidK (Ha5.out.on hb6); have Hn6 := hidK (Hn5.out.on hb6); have Hx6 := hidK (Hx5.out.on hb6); have HB6 := hidK (bel3K HB5.out hb6); clear hb6r hb6 HB5 Ha5 Hn5 Hx5
    go_upto_region 8 with (go_at_call 12; refine (insert_c _ _ L X 0 ⟨#[]⟩ false _ (HV.out.on HB6.out) Hx6.out (by have := HN.out; omega) (by have := HXL.out; omega)).mono ?_; rintro e w7 ⟨cr, ev7, rfl, hc7, _, hb7⟩; rw [HUE.out.1, List.take_of_length_le (Nat.le_refl _), List.drop_eq_nil_of_le (Nat.le_refl _), List.append_nil] at hc7; rw [HUE.out.2])
    have Hc7 := hidK hc7.row; have Hb7 := hidK (Hb6.out.on hb7); have Ha7 := hidK (Ha6.out.on hb7); have Hn7 := hidK (Hn6.out.on hb7); have Hx7 := hidK (Hx6.out.on hb7); have HB7 := hidK (bel3K HB6.out hb7); clear hc7 hb7 HB6 Ha6 Hn6 Hx6 Hb6
    go_upto_region 9 with (go_at_call 11; refine (move_c _ _ (L.take p ++ (X ++ L.drop p)) (nms X) 0 ⟨#[]⟩ _ Ha7.out Hn7.out (by rw [HAL.out]; have := HXL.out; omega) (by rw [List.length_map]; have := HXL.out; omega)).mono ?_; rintro e w8 ⟨dr, rfl, hd8, hb8⟩; rw [HUD.out.2.2.1] at hd8; rw [HUD.out.2.2.2])
    have Hd8 := hidK hd8.row; have Hc8 := hidK (Hc7.out.on hb8); have Hb8 := hidK (Hb7.out.on hb8); have Ha8 := hidK (Ha7.out.on hb8); have Hx8 := hidK (Hx7.out.on hb8); have HB8 := hidK (bel3K HB7.out hb8); clear hd8 hb8 HB7 Ha7 Hn7 Hx7 Hb7 Hc7
    go_upto_region 10 with (go_at_call 13; refine (append_c _ _ L X _ (HV.out.on HB8.out) Hx8.out (by have := HN.out; omega) (by have := HXL.out; omega)).mono ?_; rintro e w9 ⟨pr, rfl, hp9, hb9⟩)
    have Hp9 := hidK hp9.row; have Hd9 := hidK (Hd8.out.on hb9); have Hc9 := hidK (Hc8.out.on hb9); have Hb9 := hidK (Hb8.out.on hb9); have Ha9 := hidK (Ha8.out.on hb9); have Hx9 := hidK (Hx8.out.on hb9); have HB9 := hidK (bel3K HB8.out hb9); clear hp9 hb9 HB8 Ha8 Hx8 Hb8 Hc8 Hd8
    obtain ⟨lx, hlx⟩ : ∃ lx, lx = X.length := ⟨_, rfl⟩
    obtain ⟨aa, ca, qa, _, _⟩ := Ha9.out.form
    obtain ⟨ax, cx, qx, _, _⟩ := Hx9.out.form
    rw [HAL.out, ← hlx] at qa
    rw [← hlx] at qx
    have hlxb : lx ≤ 1048576 := by rw [hlx]; exact HXL.out
    subst qa
    subst qx
    have HLX := hidK hlx
    have hwl : IntKind.i64.wrap ((n : Int) + (lx : Int)) = (n : Int) + (lx : Int) := by rw [IntKind.wrap_i64]; omega
    clear hlx Ha9 Hx9
    go_upto_region 13 with (go_at_call 9; refine (same_c _ _ L _ Hb9.out (HV.out.on HB9.out) (by have := HN.out; omega)).mono ?_; rintro e w10 ⟨rfl, hb⟩)
    have Hp10 := hidK (Hp9.out.on hb); have Hd10 := hidK (Hd9.out.on hb); have Hc10 := hidK (Hc9.out.on hb); have HB10 := hidK (bel3K HB9.out hb); clear hb Hp9 Hd9 Hc9 Hb9 HB9
    go_upto_region 14 with (go_at_call 9; refine (same_c _ _ (L ++ X) _ Hc10.out Hp10.out (by rw [List.length_append]; have := HN.out; have := HXL.out; omega)).mono ?_; rintro e w11 ⟨rfl, hb⟩)
    have Hp11 := hidK (Hp10.out.on hb); have Hd11 := hidK (Hd10.out.on hb); have HB11 := hidK (bel3K HB10.out hb); clear hb Hp10 Hd10 Hc10 HB10
    go_wp2_with (go_at_call 9; refine (same_c _ _ (L ++ X) _ Hd11.out Hp11.out (by rw [List.length_append]; have := HN.out; have := HXL.out; omega)).mono ?_; rintro e w12 ⟨rfl, hb12⟩)
    go_ret
    exact ⟨by simp, bel3K HB11.out hb12⟩
end Go.Proofs.Ytaaagdmhokgcjab
