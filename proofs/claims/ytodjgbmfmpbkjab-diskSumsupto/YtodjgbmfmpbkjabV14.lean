-- The program's questions.
import Derived.Test.YtodjgbmfmpbkjabV13
import Derived.Test.YtodjgbmfmpbkjabV12
namespace Go.Proofs.Ytodjgbmfmpbkjab
open Go.RowKit
set_option linter.unusedVariables false
/-- What the calls begin with: the struct's cells, and what the maps say. -/
structure Open (F : Nat → Prop) (p : Nat) (st : St) (w : World) (d0 : Dr) (cs : List Chg) (T K : List (Nat × Nat)) (vd vs vt vk vp : Value) : Prop where
  raw : Raw F p st.cap st.bodies.length st.now d0 cs T K st.bodies w
  inv : Inv st d0 cs T K
  blk : w.heap[p]? = some (.cells (diskV st.cap st.bodies.length vd vs vt vk vp) 66 (0, 0))
  maps : Maps4 F w vd vs vt vk st.now d0 T K
  bod : Bods F w st.bodies (T ++ K)
  row : w.ownsRow 0 77 3 vp cs.length (chgV cs)
  fp : F p
theorem psx_open {F : Nat → Prop} {p : Nat} {st : St} {w : World} (h : PSx F p st w) : ∃ d0 cs T K vd vs vt vk vp, Open F p st w d0 cs T K vd vs vt vk vp := by
  obtain ⟨d0, cs, T, K, hr, hi⟩ := h
  have hr' := hr
  obtain ⟨vd, vs, vt, vk, vp, hp, hF, hm, ho, hoF, hb, hn⟩ := hr
  exact ⟨d0, cs, T, K, vd, vs, vt, vk, vp, hr', hi, hp, hm, hb, ho, hF⟩
theorem Open.psx {F : Nat → Prop} {p : Nat} {st : St} {w : World} {d0 : Dr} {cs : List Chg} {T K : List (Nat × Nat)} {vd vs vt vk vp : Value} (h : Open F p st w d0 cs T K vd vs vt vk vp) : PSx F p st w := ⟨d0, cs, T, K, h.raw, h.inv⟩
theorem psx_below {F : Nat → Prop} {p : Nat} {st : St} {w w' : World} (h : PSx F p st w) (hb : Below w.heap.size w w') : PSx F p st w' ∧ Kp F w w' := ⟨psx_same h fun k _ hk => hb.block k hk, Kp.of_below hb⟩
theorem Open.uniq {F : Nat → Prop} {p : Nat} {st : St} {w : World} {d0 : Dr} {cs : List Chg} {T K : List (Nat × Nat)} {vd vs vt vk vp : Value} (h : Open F p st w d0 cs T K vd vs vt vk vp) : Uniq (T ++ K) := h.inv.uniq h.maps.v.2.2.1.uniq h.maps.v.2.2.2.uniq
/-- A body turned: the volume behind it. -/
theorem Open.put {F : Nat → Prop} {p : Nat} {st : St} {w : World} {d0 : Dr} {cs : List Chg} {T K : List (Nat × Nat)} {vd vs vt vk vp : Value} (h : Open F p st w d0 cs T K vd vs vt vk vp) {i b : Nat} {x x' : Bd} (hx : st.bodies[i]? = some x) (hin : (i + 1, b) ∈ T) {w' : World} (ho : Only b w w') (hb' : BodyAt w' b x') :
    PSx (ext F w w') p (st.put ((i + 1 : Nat) : Int) x') w' ∧ Kp F w w' := by
  have hbF := h.bod.own _ (List.mem_append_left K hin)
  obtain ⟨h1, h2⟩ := h.raw.body h.uniq hx (List.mem_append_left _ hin) ho hb' (G := ext F w w') (fun k hk => .inl hk) (fun k hk => by
    obtain ⟨c', fz, hh⟩ := hb'.buf hk
    rcases ho.buf k hk with h1 | h1
    · exact .inl (hbF.2 k h1)
    · exact .inr ⟨h1, blk_lt hh⟩)
  refine ⟨⟨d0, cs, T, K, ?_, h.inv.put _ _⟩, h2⟩
  have e : st.put ((i + 1 : Nat) : Int) x' = { st with bodies := st.bodies.set i x' } := by
    unfold St.put; rw [Int.toNat_natCast, Nat.add_sub_cancel]
  rw [e]
  simp only [List.length_set]
  exact h1
set_option maxHeartbeats 2000000 in
theorem pending_p (F : Nat → Prop) (p : Nat) (st : St) (w : World) (h : PSx F p st w) (hw : Wf st) :
    Calls Try.prog 18 #[.pointer (some ⟨p, 0, none⟩)] w fun e w' => e = .returned (.int .i64 (st.dirs.length - 1 : Nat)) ∧ PSx F p st w' ∧ Kp F w w' := by
  obtain ⟨d0, cs, T, K, vd, vs, vt, vk, vp, O⟩ := psx_open h
  obtain ⟨ao, c, hv⟩ := own_shape O.row
  have c6 := (disk_cells O.blk).2.2.2.2.2.2
  rw [hv] at c6
  rw [O.inv.cs_len, Nat.add_sub_cancel]
  have HR : Hid (PSx F p st w ∧ Kp F w w) := ⟨h, Kp.refl _ _⟩
  obtain ⟨n, hn⟩ : ∃ n, n = cs.length := ⟨_, rfl⟩
  rw [← hn] at c6 ⊢
  clear O hv hn h hw
  go_enter Try.func18, Try.ntmps18
  go_wp2
  go_ret
  exact ⟨rfl, HR.out⟩
set_option maxHeartbeats 2000000 in
theorem read_p (F : Nat → Prop) (p : Nat) (st : St) (n : Int) (w : World) (h : PSx F p st w) (hw : Wf st) :
    Calls Try.prog 38 #[.pointer (some ⟨p, 0, none⟩), .int .i64 n] w fun e w' => e = .returned (.tuple #[.string (st.read n).1, .int .i64 (st.read n).2]) ∧ PSx F p st w' ∧ Kp F w w' := by
  obtain ⟨d0, cs, T, K, vd, vs, vt, vk, vp, O⟩ := psx_open h
  have c4 := (disk_cells O.blk).2.2.2.2.1
  unfold St.read
  rcases body_of (p := p) O.bod O.inv hw n with ⟨_, h1, h2⟩ | ⟨i, b, x, rfl, h1, h2, h3, h4, h5⟩
  · rw [h1]
    have hl := O.maps.v.2.2.1.bv_look_no true h2
    simp only [if_true] at hl
    have HR : Hid (PSx F p st w ∧ Kp F w w) := ⟨h, Kp.refl _ _⟩
    clear O h hw h1 h2
    go_enter Try.func38, Try.ntmps38
    go_wp2_with (at_lookup; refine wp_look _ rfl _ _ 63 true rfl _ _ _ rfl rfl hl ?_)
    go_ret2
    exact ⟨rfl, HR.out⟩
  · rw [h3]
    have hl := O.maps.v.2.2.1.bv_look true h1
    simp only [if_true] at hl
    have HS : Hid (Calls Try.prog 53 #[.pointer (some ⟨b, 4, none⟩)] w fun e w' => e = .returned (.string x.data) ∧ PSx F p st w' ∧ Kp F w w') := (bstr_k b x w h5).mono (by
      rintro e w' ⟨rfl, hb, ho, hk⟩
      refine ⟨rfl, ?_⟩
      have hbF := O.bod.own _ (List.mem_append_left K h1)
      obtain ⟨r1, r2⟩ := O.raw.body O.uniq h2 (List.mem_append_left _ h1) ho hb (G := F) (fun k hk => hk) (fun k hk' => by rw [bufOf_keep hk] at hk'; exact hbF.2 k hk')
      have e : st.bodies.set i x = st.bodies := by
        apply List.ext_getElem?
        intro j
        rw [List.getElem?_set]
        split
        · rename_i hij; subst hij; rw [h2, if_pos (List.getElem?_eq_some_iff.1 h2).1]
        · rfl
      rw [e] at r1
      exact ⟨⟨d0, cs, T, K, r1, O.inv⟩, r2⟩)
    clear O h hw h1 h2 h3 h4 h5
    go_enter Try.func38, Try.ntmps38
    go_wp2_with (first
      | (at_lookup; refine wp_look _ rfl _ _ 63 true rfl _ _ _ rfl rfl hl ?_)
      | (go_at_call 53; refine HS.out.mono ?_; rintro e w1 ⟨rfl, hr⟩))
    go_ret2
    exact ⟨rfl, hr⟩
set_option maxHeartbeats 2000000 in
theorem loose_p (F : Nat → Prop) (p : Nat) (st : St) (n : Int) (w : World) (h : PSx F p st w) (hw : Wf st) :
    Calls Try.prog 39 #[.pointer (some ⟨p, 0, none⟩), .int .i64 n] w fun e w' => e = .returned (.tuple #[.int .i64 (st.loose n).1, .int .i64 (st.loose n).2]) ∧ PSx F p st w' ∧ Kp F w w' := by
  obtain ⟨d0, cs, T, K, vd, vs, vt, vk, vp, O⟩ := psx_open h
  have c4 := (disk_cells O.blk).2.2.2.2.1
  unfold St.loose
  rcases body_of (p := p) O.bod O.inv hw n with ⟨_, h1, h2⟩ | ⟨i, b, x, rfl, h1, h2, h3, h4, h5⟩
  · rw [h1]
    have hl := O.maps.v.2.2.1.bv_look_no true h2
    simp only [if_true] at hl
    have HR : Hid (PSx F p st w ∧ Kp F w w) := ⟨h, Kp.refl _ _⟩
    clear O h hw h1 h2
    go_enter Try.func39, Try.ntmps39
    go_wp2_with (at_lookup; refine wp_look _ rfl _ _ 63 true rfl _ _ _ rfl rfl hl ?_)
    go_ret2
    exact ⟨rfl, HR.out⟩
  · rw [h3]
    dsimp only
    have hl := O.maps.v.2.2.1.bv_look true h1
    simp only [if_true] at hl
    have hbod := hw.bod x (List.mem_of_getElem? h2)
    have HS : Hid (Calls Try.prog 54 #[.pointer (some ⟨b, 0, none⟩)] w fun e w' => e = .returned (.int .i64 (x.data.size - x.safe : Nat)) ∧ PSx F p st w' ∧ Kp F w w') := (bloose_c b x w h5 hbod.2 (by omega)).mono (by
      rintro e w' ⟨rfl, m, rfl⟩
      exact ⟨rfl, psx_below h (below_drewN (Below.refl _ _) _)⟩)
    obtain ⟨k, hk⟩ : ∃ k, k = x.data.size - x.safe := ⟨_, rfl⟩
    rw [← hk] at HS ⊢
    clear O h hw h1 h2 h3 h4 h5 hbod hk
    go_enter Try.func39, Try.ntmps39
    go_wp2_with (first
      | (at_lookup; refine wp_look _ rfl _ _ 63 true rfl _ _ _ rfl rfl hl ?_)
      | (go_at_call 54; refine HS.out.mono ?_; rintro e w1 ⟨rfl, hr⟩))
    go_ret2
    exact ⟨rfl, hr⟩
theorem names_p (F : Nat → Prop) (p : Nat) (st : St) (w : World) (h : PSx F p st w) (hw : Wf st) :
    Calls Try.prog 37 #[.pointer (some ⟨p, 0, none⟩)] w fun e w' => (∃ v, e = .returned v ∧ w'.ownsRow w.heap.size 9 1 v st.names.length (strV st.names)) ∧ PSx F p st w' ∧ Kp F w w' := by
  obtain ⟨d0, cs, T, K, vd, vs, vt, vk, vp, O⟩ := psx_open h
  refine (pnames_c p vd st.now w (disk_cells O.blk).2.2.1 O.maps.v.1 (O.inv.dw.now hw) (now_len hw)).mono ?_
  rintro e w' ⟨⟨v, rfl, ho⟩, hb⟩
  refine ⟨⟨v, rfl, ?_⟩, psx_below h hb⟩
  unfold St.names
  rw [List.length_map]
  exact ho
theorem used_sum {F : Nat → Prop} {p : Nat} {st : St} {w : World} {d0 : Dr} {cs : List Chg} {T K : List (Nat × Nat)} (hi : Inv st d0 cs T K) : (T.map fun e => szOf st.bodies e.1).sum = st.used := by
  unfold St.used usedIn
  have := (hi.num.map (szOf st.bodies)).sum_nat
  simpa [List.map_map, Function.comp_def] using this
theorem used_p (F : Nat → Prop) (p : Nat) (st : St) (w : World) (h : PSx F p st w) (hw : Wf st) :
    Calls Try.prog 36 #[.pointer (some ⟨p, 0, none⟩)] w fun e w' => e = .returned (.int .i64 st.used) ∧ Below w.heap.size w w' := by
  obtain ⟨d0, cs, T, K, vd, vs, vt, vk, vp, O⟩ := psx_open h
  have hs := used_sum (F := F) (p := p) (w := w) O.inv
  have hle := usedIn_le hw st.now
  have hl := now_len hw
  have hu : st.used ≤ 64 * 1073741824 := Nat.le_trans hle (Nat.mul_le_mul_right _ hl)
  refine (pused_c p vt T (szOf st.bodies) w (disk_cells O.blk).2.2.2.2.1 O.maps.v.2.2.1 (fun e he => ?_) (by rw [hs]; omega)).mono ?_
  · obtain ⟨i, x, h1, h2, h3⟩ := O.bod.at_ e (List.mem_append_left _ he)
    exact ⟨x, h3, by rw [h1]; simp [szOf, h2]⟩
  · rintro e w' ⟨rfl, hb⟩
    rw [hs]
    exact ⟨rfl, hb⟩
end Go.Proofs.Ytodjgbmfmpbkjab
