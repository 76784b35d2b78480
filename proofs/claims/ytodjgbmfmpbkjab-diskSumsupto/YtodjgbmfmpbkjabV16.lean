-- New, Sync, Append, SyncDir.
import Derived.Test.YtodjgbmfmpbkjabV14
namespace Go.Proofs.Ytodjgbmfmpbkjab
open Go.RowKit
set_option linter.unusedVariables false
set_option maxHeartbeats 2000000 in
theorem new_no_p (c : Int) (w : World) (hc : c < 0 ∨ 1073741824 < c) : Calls Try.prog 23 #[.int .i64 c] w fun e w' => e = .returned (.pointer none) ∧ Below w.heap.size w w' := by
  rcases (by omega : c < 0 ∨ (0 ≤ c ∧ 1073741824 < c)) with h | ⟨h, h2⟩
  · have b0 : decide (c < 0) = true := decide_eq_true h
    go_enter Try.func23, Try.ntmps23
    go_wp2
    go_ret
    exact ⟨rfl, Below.refl _ _⟩
  · have b0 : decide (c < 0) = false := decide_eq_false (by omega)
    have b1 : decide (1073741824 < c) = true := decide_eq_true h2
    go_enter Try.func23, Try.ntmps23
    go_wp2
    go_ret
    exact ⟨rfl, Below.refl _ _⟩
theorem psx_new (c : Nat) (w : World) : PSx (fun k => w.heap.size ≤ k ∧ k < (w.alloc (.cells #[.int .i64 c, .int .i64 0, .map none, .map none, .map none, .map none, .slice none 0 0] 66)).heap.size) w.heap.size (St.new c) (w.alloc (.cells #[.int .i64 c, .int .i64 0, .map none, .map none, .map none, .map none, .slice none 0 0] 66)) := by
  refine ⟨[], [], [], [], ⟨.map none, .map none, .map none, .map none, .slice none 0 0, heap_alloc_new w _, ⟨Nat.le_refl _, by simp⟩, .inl ⟨rfl, rfl, rfl, rfl, rfl, rfl, rfl, .inl rfl⟩, World.ownsRow_nil _ _ _ _, fun k hk => by simp [Value.ownBlock] at hk, ⟨by simp, by simp, by simp, by simp⟩, fun _ => rfl⟩, ⟨rfl, new_DW c, ?_, ?_, by simp⟩⟩
  · simp [St.new, St.now]
  · intro d hd e he
    simp [St.new] at hd
    subst hd; simp at he
set_option maxHeartbeats 2000000 in
theorem new_p (c : Nat) (w : World) (hc : c ≤ 1073741824) : Calls Try.prog 23 #[.int .i64 c] w fun e w' => ∃ p, e = .returned (.pointer (some ⟨p, 0, none⟩)) ∧ PSx (fun k => w.heap.size ≤ k ∧ k < w'.heap.size) p (St.new c) w' ∧ Below w.heap.size w w' := by
  have b0 : decide ((c : Int) < 0) = false := decide_eq_false (by omega)
  have b1 : decide ((1073741824 : Int) < (c : Int)) = false := decide_eq_false (by omega)
  have HR := psx_new c w
  have HH : Hid (PSx (fun k => w.heap.size ≤ k ∧ k < (w.alloc (.cells #[.int .i64 c, .int .i64 0, .map none, .map none, .map none, .map none, .slice none 0 0] 66)).heap.size) w.heap.size (St.new c) (w.alloc (.cells #[.int .i64 c, .int .i64 0, .map none, .map none, .map none, .map none, .slice none 0 0] 66))) := HR
  clear HR
  go_enter Try.func23, Try.ntmps23
  go_wp2
  go_ret
  exact ⟨_, rfl, HH.out, (Below.refl _ w).alloc (Nat.le_refl _) _⟩
set_option maxHeartbeats 2000000 in
theorem sync_p (F : Nat → Prop) (p : Nat) (st : St) (n : Int) (w : World) (h : PSx F p st w) (hw : Wf st) :
    Calls Try.prog 30 #[.pointer (some ⟨p, 0, none⟩), .int .i64 n] w fun e w' => e = .returned (.int .i64 (st.sync n).1) ∧ PDid PSx F p (st.sync n).2 w w' := by
  obtain ⟨d0, cs, T, K, vd, vs, vt, vk, vp, O⟩ := psx_open h
  have c4 := (disk_cells O.blk).2.2.2.2.1
  unfold St.sync
  rcases body_of (p := p) O.bod O.inv hw n with ⟨_, h1, h2⟩ | ⟨i, b, x, rfl, h1, h2, h3, h4, h5⟩
  · rw [h1]
    have hl := O.maps.v.2.2.1.bv_look_no true h2
    simp only [if_true] at hl
    have HR : Hid (PDid PSx F p st w w) := ⟨psx_mono h fun k hk => .inl hk, Kp.refl _ _⟩
    clear O h hw h1 h2
    go_enter Try.func30, Try.ntmps30
    go_wp2_with (at_lookup; refine wp_look _ rfl _ _ 63 true rfl _ _ _ rfl rfl hl ?_)
    go_ret
    exact ⟨rfl, HR.out⟩
  · rw [h3]
    dsimp only
    have hl := O.maps.v.2.2.1.bv_look true h1
    simp only [if_true] at hl
    obtain ⟨ad, v, hh, had, hown⟩ := id h5
    have e1 := (set_body hh).2.2 x.data.size
    have HR : Hid (PDid PSx F p (st.put ((i + 1 : Nat) : Int) { x with safe := x.data.size }) w (w.setCell ⟨b, 6, none⟩ (.int .i64 x.data.size))) := by
      refine O.put h2 h1 ((Only.refl b w).set _ fun k hk => .inl ?_) ⟨ad, v, e1, had, ownF_keep hown fun k hk => Below.heap_setCell _ _ _ _ (fun e => buf_ne hh hown (by rw [hk, e]))⟩
      rw [bufOf_eq e1] at hk; rw [bufOf_eq hh]; exact hk
    have c6 := h5.cell6.1
    have f6 := h5.cell6.2
    have HL : Hid (Calls Try.prog 28 #[.pointer (some ⟨b, 4, none⟩)] w fun e w' => e = .returned (.int .i64 x.data.size) ∧ w' = w) := blen_c b x w h5
    clear O h hw h1 h2 h3 h4 h5 hh had hown e1
    go_enter Try.func30, Try.ntmps30
    go_wp2_with (first
      | (at_lookup; refine wp_look _ rfl _ _ 63 true rfl _ _ _ rfl rfl hl ?_)
      | (go_at_call 28; refine HL.out.mono ?_; rintro e w1 ⟨rfl, hw1⟩; subst w1))
    go_ret
    exact ⟨rfl, HR.out⟩
/-- What a call that only makes new blocks, and then one on the volume, has done. -/
theorem pdid_after {F : Nat → Prop} {p : Nat} {st : St} {w w1 w2 : World} (hb : Below w.heap.size w w1) (h : PDid PSx F p st w1 w2) : PDid PSx F p st w w2 := by
  obtain ⟨h1, h2⟩ := h
  have hs := hb.size
  have hs2 := h2.size
  refine ⟨psx_mono h1 fun k hk => ?_, h2.os.trans hb.os, h2.tape.trans hb.tape, h2.output.trans hb.output, by omega, fun k hk hF => (h2.block k (by omega) hF).trans (hb.block k hk)⟩
  rcases hk with hk | hk
  · exact .inl hk
  · exact .inr ⟨by omega, by omega⟩
set_option maxHeartbeats 8000000 in
theorem append_p (F : Nat → Prop) (p : Nat) (st : St) (n : Int) (data : ByteArray) (w : World) (h : PSx F p st w) (hw : Wf st) (hd : data.size ≤ 140737488355328) :
    Calls Try.prog 29 #[.pointer (some ⟨p, 0, none⟩), .int .i64 n, .string data] w fun e w' => e = .returned (.int .i64 (st.append n data).1) ∧ PDid PSx F p (st.append n data).2 w w' := by
  obtain ⟨d0, cs, T, K, vd, vs, vt, vk, vp, O⟩ := psx_open h
  have c4 := (disk_cells O.blk).2.2.2.2.1
  have c0 := (disk_cells O.blk).1
  unfold St.append
  rcases body_of (p := p) O.bod O.inv hw n with ⟨_, h1, h2⟩ | ⟨i, b, x, rfl, h1, h2, h3, h4, h5⟩
  · rw [h1]
    have hl := O.maps.v.2.2.1.bv_look_no true h2
    simp only [if_true] at hl
    have HR : Hid (PDid PSx F p st w w) := ⟨psx_mono h fun k hk => .inl hk, Kp.refl _ _⟩
    clear O h hw h1 h2 c0
    go_enter Try.func29, Try.ntmps29
    go_wp2_with (at_lookup; refine wp_look _ rfl _ _ 63 true rfl _ _ _ rfl rfl hl ?_)
    go_ret
    exact ⟨rfl, HR.out⟩
  · rw [h3]
    dsimp only
    have hl := O.maps.v.2.2.1.bv_look true h1
    simp only [if_true] at hl
    have hbod := hw.bod x (List.mem_of_getElem? h2)
    have hcap := hw.cap
    have HW : Hid (x.data.size + data.size ≤ 140737488355328 → ∀ W, Below w.heap.size w W → Calls Try.prog 47 #[.pointer (some ⟨b, 4, none⟩), .string data] W fun e w' => e = .returned (.tuple #[.int .i64 data.size, .nilIface]) ∧ PDid PSx F p (st.put ((i + 1 : Nat) : Int) { x with data := x.data ++ data }) w w') := fun hsz W hb => by
      have hB := h5.below hb (Nat.le_refl _)
      refine (bwrite_c b x data W hB hsz).mono ?_
      rintro e w' ⟨rfl, hb', ho⟩
      have hO : Open F p st W d0 cs T K vd vs vt vk vp := by
        have hk : ∀ k, F k → k < w.heap.size → W.heap[k]? = w.heap[k]? := fun k _ hk => hb.block k hk
        refine ⟨O.raw.keep hk fun _ h => h, O.inv, (hb.block p (blk_lt O.blk)).trans O.blk, O.maps.keep (fun v hv b' hb'' => hb.block b' (O.maps.inF hv hb'').2) fun _ h => h, O.bod.keep (fun e he k hk' => hb.block k ?_) fun _ h => h, own_keep O.row fun k hk' => hb.block k ?_, O.fp⟩
        · rcases hk' with rfl | hk'
          · exact (O.bod.lt he).1
          · exact (O.bod.lt he).2 k hk'
        · obtain ⟨cur, hh⟩ := own_typed O.row hk'; exact blk_lt hh
      exact ⟨rfl, pdid_after hb (hO.put h2 h1 ho hb')⟩
    by_cases he : data = ⟨#[]⟩
    · rw [if_neg (fun h => h.1 he)]
      have HW2 : Hid (∀ W, Below w.heap.size w W → Calls Try.prog 47 #[.pointer (some ⟨b, 4, none⟩), .string data] W fun e w' => e = .returned (.tuple #[.int .i64 data.size, .nilIface]) ∧ PDid PSx F p (st.put ((i + 1 : Nat) : Int) { x with data := x.data ++ data }) w w') := HW.out (by rw [he]; show x.data.size + 0 ≤ _; omega)
      clear HW
      subst he
      obtain ⟨R, hR⟩ : ∃ R, R = st.put ((i + 1 : Nat) : Int) { x with data := x.data ++ ⟨#[]⟩ } := ⟨_, rfl⟩
      rw [← hR] at HW2
      rw [← hR]
      clear O h hw h1 h2 h3 h4 h5 hbod hcap hR hd
      go_enter Try.func29, Try.ntmps29
      go_wp2_with (at_lookup; refine wp_look _ rfl _ _ 63 true rfl _ _ _ rfl rfl hl ?_)
      go_quiet (fail)
      go_wp2_with (go_at_call 47; refine (HW2.out _ (below_drewN (Below.refl _ _) _)).mono ?_; rintro e w1 ⟨rfl, hr⟩)
      go_ret
      exact ⟨rfl, hr⟩
    · have hle := usedIn_le hw st.now
      have hnl := now_len hw
      have hu : st.used ≤ 64 * 1073741824 := Nat.le_trans hle (Nat.mul_le_mul_right _ hnl)
      have hne := empty_no he
      have hne2 : data.toList.isEmpty = false := by
        cases hx : data.toList with
        | nil => exact absurd hx hne
        | cons _ _ => rfl
      have HU : Hid (∀ W, (W.cell? ⟨p, 0, none⟩ = some (.int .i64 st.cap) ∧ Below w.heap.size w W) → Calls Try.prog 36 #[.pointer (some ⟨p, 0, none⟩)] W fun e w' => e = .returned (.int .i64 st.used) ∧ (w'.cell? ⟨p, 0, none⟩ = some (.int .i64 st.cap) ∧ Below w.heap.size w w')) := fun W hb => (used_p F p st W (psx_below h hb.2).1 hw).mono (by
        rintro e w' ⟨rfl, hb'⟩
        have hbb := hb.2.trans (hb'.mono hb.2.size)
        exact ⟨rfl, cell_below hbb c0, hbb⟩)
      have HPS : Hid (∀ W, Below w.heap.size w W → PDid PSx F p st w W) := fun W hb => ⟨psx_mono (psx_below h hb).1 fun k hk => .inl hk, (psx_below h hb).2⟩
      obtain ⟨U, hU⟩ : ∃ U, U = st.used := ⟨_, rfl⟩
      obtain ⟨C, hC⟩ : ∃ C, C = st.cap := ⟨_, rfl⟩
      rw [← hU] at HU hu
      rw [← hC] at HU c0 hcap
      have hwr : IntKind.i64.wrap ((U : Int) + (data.size : Int)) = ((U + data.size : Nat) : Int) := by rw [wrap_i64 (by omega)]; omega
      obtain ⟨V, hV⟩ : ∃ V, V = U + data.size := ⟨_, rfl⟩
      rw [← hV] at hwr
      have HB0 : Hid (Below w.heap.size w w.drew) := (Below.refl _ _).drew
      have hB0 : Below w.heap.size w w := Below.refl _ _
      by_cases hfull : st.cap < st.used + data.size
      · rw [if_pos ⟨he, hfull⟩]
        have b1 : decide (C < V) = true := decide_eq_true (by omega)
        have b2 : decide ((C : Int) < (V : Int)) = true := decide_eq_true (by omega)
        clear O h hw h1 h2 h3 h4 h5 hbod hcap hU hC hle hnl hu HW hfull he hd hV
        go_enter Try.func29, Try.ntmps29
        go_wp2_with (at_lookup; refine wp_look _ rfl _ _ 63 true rfl _ _ _ rfl rfl hl ?_)
        go_region_held3 (fun w' => w'.cell? ⟨p, 0, none⟩ = some (.int .i64 C) ∧ Below w.heap.size w w') (first | assumption | exact ⟨hSw.1, hSw.2.drew⟩ | exact ⟨c0, HB0.out⟩ | exact ⟨c0, hB0⟩) (first
          | (go_at_call 36; refine (HU.out _ (by assumption)).mono ?_; rintro e w' ⟨rfl, hS'⟩))
        go_wp2
        go_ret
        exact ⟨rfl, HPS.out _ hS'.2⟩
      · rw [if_neg (fun h => hfull h.2)]
        have b1 : decide (C < V) = false := decide_eq_false (by omega)
        have b2 : decide ((C : Int) < (V : Int)) = false := decide_eq_false (by omega)
        have HW2 := HW.out (by omega)
        have HW3 : Hid (∀ W, Below w.heap.size w W → Calls Try.prog 47 #[.pointer (some ⟨b, 4, none⟩), .string data] W fun e w' => e = .returned (.tuple #[.int .i64 data.size, .nilIface]) ∧ PDid PSx F p (st.put ((i + 1 : Nat) : Int) { x with data := x.data ++ data }) w w') := HW2
        obtain ⟨R, hR⟩ : ∃ R, R = st.put ((i + 1 : Nat) : Int) { x with data := x.data ++ data } := ⟨_, rfl⟩
        rw [← hR] at HW3
        rw [← hR]
        clear O h hw h1 h2 h3 h4 h5 hbod hcap hU hC hle hnl hu HW HW2 hfull he hd hV hR
        go_enter Try.func29, Try.ntmps29
        go_wp2_with (at_lookup; refine wp_look _ rfl _ _ 63 true rfl _ _ _ rfl rfl hl ?_)
        go_region_held3 (fun w' => w'.cell? ⟨p, 0, none⟩ = some (.int .i64 C) ∧ Below w.heap.size w w') (first | assumption | exact ⟨hSw.1, hSw.2.drew⟩ | exact ⟨c0, HB0.out⟩ | exact ⟨c0, hB0⟩) (first
          | (go_at_call 36; refine (HU.out _ (by assumption)).mono ?_; rintro e w' ⟨rfl, hS'⟩))
        go_wp2_with (go_at_call 47; refine (HW3.out _ hS'.2).mono ?_; rintro e w1 ⟨rfl, hr⟩)
        go_ret
        exact ⟨rfl, hr⟩
end Go.Proofs.Ytodjgbmfmpbkjab
