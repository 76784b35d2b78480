
-- DiskSums' walk.
import Derived.Test.YtodjgbmfmpbkjabN9
import Derived.Deep.RegionWith
namespace Go.Proofs.Ytodjgbmfmpbkjab
open Go.RowKit
set_option linter.unusedVariables false
variable {PS : (Nat → Prop) → Nat → St → World → Prop}
theorem step_more (st : St) (o : Opx) : st.bodies.length ≤ (st.step o).bodies.length := by
  unfold St.step
  split
  · unfold St.create
    split
    · exact Nat.le_refl _
    · split
      · exact Nat.le_refl _
      · simp
  split
  · unfold St.append
    split
    · exact Nat.le_refl _
    · split
      · exact Nat.le_refl _
      · simp [St.put]
  split
  · unfold St.sync
    split
    · simp [St.put]
    · exact Nat.le_refl _
  split
  · exact Nat.le_refl _
  split
  · unfold St.rename
    split
    · exact Nat.le_refl _
    · split
      · exact Nat.le_refl _
      · split <;> exact Nat.le_refl _
  split
  · unfold St.remove
    split
    · exact Nat.le_refl _
    · split <;> exact Nat.le_refl _
  split
  · show _ ≤ (cutTo _ _ _ _).length
    rw [cutTo_len]; exact Nat.le_refl _
  · exact Nat.le_refl _
/-- The volume st, a box of the statement's beside it that stands still. -/
def Bz (PS : (Nat → Prop) → Nat → St → World → Prop) (B p x : Nat) (X : Obj) (st : St) (w0 w : World) : Prop :=
  w.heap[x]? = some X ∧ Wf st ∧ Below B w0 w ∧ B ≤ w.heap.size ∧ ∃ F, One PS B F p st w ∧ ¬ F x
theorem Bz.ask {B p x : Nat} {X : Obj} {st : St} {w0 w : World} {f : FuncId} {args : Array Value} {v : Value} (h : Bz PS B p x X st w0 w)
    (hc : ∀ F, PS F p st w → Wf st → Calls Try.prog f args w fun e w' => e = .returned v ∧ PS F p st w' ∧ Kp F w w') :
    Calls Try.prog f args w fun e w' => e = .returned v ∧ Bz PS B p x X st w0 w' := by
  obtain ⟨h1, h2, h3, h4, F, h5, h6⟩ := h
  refine (hc F h5.d h2).mono ?_
  rintro e w' ⟨rfl, hd⟩
  have hx : x < w.heap.size := (Array.getElem?_eq_some_iff.1 h1).1
  obtain ⟨o1, o2⟩ := h5.ask h4 hd
  exact ⟨rfl, by rw [hd.2.block x hx h6]; exact h1, h2, h3.trans o2, by have := hd.2.size; omega, F, o1, h6⟩
theorem Bz.create (C : PC PS) {B p x : Nat} {X : Obj} {st : St} {w0 w : World} (a : ByteArray) (m0 m1 m2 m3 : Int) (hm : st.bodies.length < 2097152) (hl : st.dirs.length < 2097152) (h : Bz PS B p x X st w0 w) :
    Calls Try.prog 10 #[.pointer (some ⟨p, 0, none⟩), .string a, .agg #[.int .i64 m0, .int .i64 m1, .int .i64 m2, .int .i64 m3]] w fun e w' => e = .returned (.tuple #[.int .i64 (st.create a m0 m1 m2 m3).1.1, .int .i64 (st.create a m0 m1 m2 m3).1.2]) ∧ Bz PS B p x X (st.create a m0 m1 m2 m3).2 w0 w' := by
  obtain ⟨h1, h2, h3, h4, F, h5, h6⟩ := h
  refine (C.create F p st a m0 m1 m2 m3 w h5.d h2).mono ?_
  rintro e w' ⟨rfl, hd⟩
  have hx : x < w.heap.size := (Array.getElem?_eq_some_iff.1 h1).1
  obtain ⟨o1, o2⟩ := h5.did h4 hd
  refine ⟨rfl, by rw [hd.2.block x hx h6]; exact h1, (create_fine h2 a m0 m1 m2 m3 hm hl).wf, h3.trans o2, by have := hd.2.size; omega, _, o1, fun h => ?_⟩
  rcases h with h | h
  · exact h6 h
  · omega
theorem Bz.cells {B p x : Nat} {a : ByteArray} {v0 v1 v2 v4 v5 v6 v7 v8 v9 : Value} {t : TypeId} {st : St} {w0 w : World} (h : Bz PS B p x (.cells #[v0, v1, v2, .string a, v4, v5, v6, v7, v8, v9] t) st w0 w) :
    w.cell? ⟨x, 3, none⟩ = some (.string a) ∧ w.cell? ⟨x, 5, none⟩ = some v5 ∧ w.cell? ⟨x, 6, none⟩ = some v6 ∧ w.cell? ⟨x, 7, none⟩ = some v7 ∧ w.cell? ⟨x, 8, none⟩ = some v8 ∧ x < w.heap.size := by
  have h1 := h.1
  exact ⟨by simp [World.cell?, h1], by simp [World.cell?, h1], by simp [World.cell?, h1], by simp [World.cell?, h1], by simp [World.cell?, h1], (Array.getElem?_eq_some_iff.1 h1).1⟩
theorem start_one (c : Nat) : 1 ≤ (St.start c).bodies.length := by
  have h := start_first c
  unfold St.start
  unfold St.create at h ⊢
  split at h
  · cases h
  · rename_i h1
    rw [if_neg h1]
    split at h
    · cases h
    · rename_i h2
      rw [if_neg h2]; simp
set_option maxRecDepth 100000 in
set_option maxHeartbeats 8000000 in
theorem diskSums_w (C : PC PS) (c : Int) (v : Value) (ops : List Opx) (w : World) (hv : RowO w v ops) (hok : ∀ (j : Nat) (o : Opx), ops[j]? = some o → OpOk w.heap.size o w) (hl : ops.length ≤ 1048576) :
    Calls Try.prog 3 #[.int .i64 c, v] w fun e w' => e = .returned (.bool true) ∧ Below w.heap.size w w' := by
  obtain ⟨ao, cp, hvs⟩ : ∃ ao cp, v = .slice ao ops.length cp := by
    rcases hv with ⟨rfl, ao, c, rfl⟩ | ⟨b, off, cap, rfl, _⟩
    · exact ⟨_, _, rfl⟩
    · exact ⟨_, _, rfl⟩
  by_cases hc : c < 0 ∨ 1073741824 < c
  · have HD : Hid (∀ w, Calls Try.prog 9 #[.int .i64 c] w fun e w' => e = .returned (.tuple #[.pointer none, .bool true]) ∧ Below w.heap.size w w') := fun w => started_no C c w hc
    clear hc hok hv
    subst hvs
    go_enter Try.func3, Try.ntmps3
    go_wp2_with (go_at_call 9; refine (HD.out _).mono ?_; rintro e w1 ⟨rfl, hb1⟩)
    go_ret
    exact ⟨rfl, hb1⟩
  · obtain ⟨cn, rfl⟩ := Int.eq_ofNat_of_zero_le (show 0 ≤ c by omega)
    have hcn : cn ≤ 1073741824 := by omega
    have HD : Hid (Calls Try.prog 9 #[.int .i64 (cn : Int)] w fun e w' => ∃ p, e = .returned (.tuple #[.pointer (some ⟨p, 0, none⟩), .bool true]) ∧ Run PS w.heap.size p cn (St.start cn) 0 w' ∧ Below w.heap.size w w') := run_start C cn w hcn
    have HOK : Hid (∀ (j : Nat) (o : Opx), ops[j]? = some o → OpOk w.heap.size o w) := hok
    have HV : Hid (RowO w v ops) := hv
    obtain ⟨n, hn⟩ : ∃ n, n = ops.length := ⟨_, rfl⟩
    have HNN : Hid (n = ops.length) := hn
    rw [← hn] at hl hvs
    subst hvs
    clear hc hok hv hn
    go_enter Try.func3, Try.ntmps3
    go_wp2_with (go_at_call 9; refine HD.out.mono ?_; rintro e w1 ⟨p, rfl, r1, hb1⟩)
    have HP0 : Hid (Run PS w.heap.size p cn (St.start cn) 0 w1 ∧ Below w.heap.size w w1) := ⟨r1, hb1⟩
    clear r1 hb1 HD
    go_loopw [6, 7, 8] (fun o ls i wr => ∃ k lst : Nat, i = .int .i64 k ∧ o = .bool true ∧ ls = .int .i64 lst ∧ k ≤ n ∧ lst ≤ ((St.start cn).play (ops.take k)).bodies.length ∧ Run PS w.heap.size p cn ((St.start cn).play (ops.take k)) k wr ∧ Below w.heap.size w wr) (fun _ _ i _ => n - (intOf i).toNat)
    case atStart => exact ⟨0, 1, rfl, rfl, rfl, Nat.zero_le _, start_one cn, HP0.out.1, HP0.out.2⟩
    case round =>
      obtain ⟨k, lst, rfl, rfl, rfl, hkn, hlst, hpl, hbw⟩ := hrel
      have hbs := hbw.size
      by_cases hk : k < n
      · have hkl : k < ops.length := by rw [← HNN.out]; exact hk
        obtain ⟨o, hok⟩ : ∃ o, ops[k]? = some o := ⟨_, List.getElem?_eq_getElem hkl⟩
        have hoo := HOK.out k o hok
        obtain ⟨b, off, rfl, hbl, hat⟩ : ∃ b off, ao = some ⟨b, off, none⟩ ∧ b < w.heap.size ∧ OpAt w b (off + k * 10) o := by
          rcases HV.out with ⟨h0, _⟩ | ⟨b, off, cap, hv, hb, hc⟩
          · rw [h0] at hkl; simp at hkl
          · cases hv; exact ⟨b, off, rfl, hb, hc k o hok⟩
        have hat2 := hat.below hbw hbl
        have HST : Hid ((St.start cn).play (ops.take (k + 1)) = ((St.start cn).play (ops.take k)).step o) := play_take _ _ _ _ hok
        obtain ⟨st, hst⟩ : ∃ st, st = (St.start cn).play (ops.take k) := ⟨_, rfl⟩
        rw [← hst] at hpl HST hlst
        clear hst hok hat
        obtain ⟨ao2, cl2, cp2, hcv⟩ := hoo.slice
        have HOO : Hid (OpOk w.heap.size o w) := hoo
        obtain ⟨kind, on, nn, a, bb, m0, m1, m2, m3, cv, cuts⟩ := o
        simp only at hcv
        subst hcv
        obtain ⟨e0, e1, e2, e3, e4, e5, e6, e7, e8, e9⟩ := hat2
        simp only at e0 e1 e2 e3 e4 e5 e6 e7 e8 e9
        clear hoo
        have b1 : decide ((k : Int) < (n : Int)) = true := by simp; omega
        have i1 : (k : Int) < (n : Int) := by omega
        have i2 : (0 : Int) ≤ (k : Int) := by omega
        obtain ⟨W, hW⟩ : ∃ W, W = wr.alloc (.cells #[.int .i64 kind, .int .i64 on, .int .i64 nn, .string a, .string bb, .int .i64 m0, .int .i64 m1, .int .i64 m2, .int .i64 m3, .slice ao2 cl2 cp2] 30) := ⟨_, rfl⟩
        have hbW : Below wr.heap.size wr W := by rw [hW]; exact (Below.refl _ wr).alloc (Nat.le_refl _) _
        have HOW : Hid (OpOk w.heap.size ⟨kind, on, nn, a, bb, m0, m1, m2, m3, .slice ao2 cl2 cp2, cuts⟩ W) := HOO.out.below (hbw.trans (hbW.mono hbs)) (Nat.le_refl _)
        have HPW : Hid (Run PS w.heap.size p cn st k W ∧ Below w.heap.size w W) := ⟨hpl.below C hbW, hbw.trans (hbW.mono hbs)⟩
        have hsW := HPW.out.2.size
        by_cases hch : kind = 1
        · subst hch
          have hwf := HPW.out.1.wf
          have hdw := HPW.out.1.dw
          have hbm : st.bodies.length < 2097152 := by have := HPW.out.1.bodies; omega
          have hdm : st.dirs.length < 2097152 := by have := HPW.out.1.dirs; omega
          obtain ⟨X, hX⟩ : ∃ X, X = Obj.cells #[.int .i64 1, .int .i64 on, .int .i64 nn, .string a, .string bb, .int .i64 m0, .int .i64 m1, .int .i64 m2, .int .i64 m3, .slice ao2 cl2 cp2] 30 := ⟨_, rfl⟩
          obtain ⟨st2, hst2⟩ : ∃ st2, st2 = (st.create a m0 m1 m2 m3).2 := ⟨_, rfl⟩
          obtain ⟨E, hE⟩ : ∃ E, E = (st.create a m0 m1 m2 m3).1.2 := ⟨_, rfl⟩
          obtain ⟨Y, hY⟩ : ∃ Y, Y = (st.create a m0 m1 m2 m3).1.1 := ⟨_, rfl⟩
          have hs2 : st.step ⟨1, on, nn, a, bb, m0, m1, m2, m3, .slice ao2 cl2 cp2, cuts⟩ = st2 := by rw [hst2]; rfl
          have HQ : Hid (Bz PS w.heap.size p wr.heap.size X st w W) := by
            obtain ⟨F, t0⟩ := hpl.one
            exact ⟨by rw [hW, hX]; exact heap_alloc_new wr _, hwf, HPW.out.2, hsW, F, t0.below C hbW, fun h => by have := (t0.lo _ h).2; omega⟩
          have HCR : Hid (∀ w1, Bz PS w.heap.size p wr.heap.size X st w w1 → Calls Try.prog 10 #[.pointer (some ⟨p, 0, none⟩), .string a, .agg #[.int .i64 m0, .int .i64 m1, .int .i64 m2, .int .i64 m3]] w1 fun e w' => e = .returned (.tuple #[.int .i64 (Y : Nat), .int .i64 (E : Nat)]) ∧ Bz PS w.heap.size p wr.heap.size X st2 w w') := fun w1 h => by rw [hst2, hE, hY]; exact h.create C a m0 m1 m2 m3 hbm hdm
          have HRUN : Hid (∀ w1, Bz PS w.heap.size p wr.heap.size X st2 w w1 → Run PS w.heap.size p cn st2 (k + 1) w1 ∧ Below w.heap.size w w1) := fun w1 h => by
            obtain ⟨h1, h2, h3, h4, F, h5, h6⟩ := h
            have := HPW.out.1.step (w' := w1) (by omega) ⟨1, on, nn, a, bb, m0, m1, m2, m3, .slice ao2 cl2 cp2, cuts⟩ ⟨F, by rw [hs2]; exact h5⟩
            rw [hs2] at this
            exact ⟨this, h3⟩
          have HWK : Hid (∀ w1 W', Bz PS w.heap.size p wr.heap.size X st2 w w1 → Below w1.heap.size w1 W' → Calls Try.prog 14 #[.pointer (some ⟨p, 0, none⟩)] W' fun e w' => e = .returned (.bool true) ∧ Run PS w.heap.size p cn ((St.start cn).play (ops.take (k + 1))) (k + 1) w' ∧ Below w.heap.size w w') := fun w1 W' h hb => by
            obtain ⟨r1, r2⟩ := HRUN.out w1 h
            have r3 := r1.below C hb
            have hz := r2.size
            have hbb := r2.trans (hb.mono hz)
            obtain ⟨F, t⟩ := r3.one
            refine (wellKept_c C w.heap.size F p st2 W' t r3.wf r3.dw hbb.size).mono ?_
            rintro e w' ⟨rfl, t', hb'⟩
            rw [HST.out, hs2]
            exact ⟨rfl, ⟨⟨F, t'⟩, r3.wf, r3.dw, r3.cap, r3.bodies, r3.dirs⟩, hbb.trans hb'⟩
          have HN : Hid (∀ (n : Int) w, Calls Try.prog 11 #[.int .i64 n] w fun e w' => e = .returned (.int .i64 n) ∧ w' = w) := fun n w => num_c n w
          have HBZ : Hid (∀ w1, Bz PS w.heap.size p wr.heap.size X st2 w w1 → Below w1.heap.size w1 w1) := fun w1 h => Below.refl _ _
          have HL2 : Hid (lst ≤ ((St.start cn).play (ops.take (k + 1))).bodies.length) := by
            show _ ≤ _
            rw [HST.out]; exact Nat.le_trans hlst (step_more _ _)
          rcases Nat.eq_zero_or_pos E with hE0 | hE0
          · have hnew := create_new hwf hdw hbm hdm a m0 m1 m2 m3 (by rw [← hE]; exact hE0)
            rw [← hY, ← hst2] at hnew
            obtain ⟨n1, n2, n3⟩ := hnew
            have HL3 : Hid (Y ≤ ((St.start cn).play (ops.take (k + 1))).bodies.length) := by
              show _ ≤ _
              rw [HST.out, hs2, n1, n2]; exact Nat.le_refl _
            have HFI : Hid (∀ w1, Bz PS w.heap.size p wr.heap.size X st2 w w1 → Calls Try.prog 12 #[.pointer (some ⟨p, 0, none⟩), .string a] w1 fun e w' => e = .returned (.tuple #[.agg #[.int .i64 m0, .int .i64 m1, .int .i64 m2, .int .i64 m3, .string a, .int .i64 0], .int .i64 (Y : Nat), .int .i64 0]) ∧ Bz PS w.heap.size p wr.heap.size X st2 w w') := fun w1 h => h.ask fun F x1 x2 => by
              have := C.find F p st2 a w1 x1 x2
              rw [n3, ← n1] at this
              exact this
            have hYl : lst < Y := by omega
            have c1 : decide ((Y : Int) ≤ (lst : Int)) = false := decide_eq_false (by omega)
            subst hE0
            rw [hW] at HQ
            clear hpl hbw hbW hW hsW hst2 hwf hdw HPW HOW HOO hE hY n1 n2 n3 hbm hdm hs2 hlst
            subst hX
            go_wp2_with fail
            go_at_call 10
            refine (HCR.out _ HQ.out).mono ?_
            rintro e w1 ⟨rfl, q1⟩
            obtain ⟨x3, x5, x6, x7, x8, x9⟩ := q1.cells
            go_wp2_with (go_at_call 11; refine (HN.out _ _).mono ?_; rintro e w6 ⟨rfl, hw6⟩; subst w6)
            go_at_call 12
            refine (HFI.out _ q1).mono ?_
            rintro e w2 ⟨rfl, q2⟩
            clear x3 x5 x6 x7 x8 x9 q1
            obtain ⟨x3, x5, x6, x7, x8, x9⟩ := q2.cells
            have y1 := World.new_ne w2 _ x5
            have HAL : Hid (∀ O, Below w2.heap.size w2 (w2.alloc O)) := fun O => (Below.refl _ w2).alloc (Nat.le_refl _) O
            have z1 : ¬ Y ≤ lst := by omega
            clear x3
            go_wp2_with (first
              | (go_at_call 11; refine (HN.out _ _).mono ?_; rintro e w6 ⟨rfl, hw6⟩; subst w6)
              | (go_at_call 14; refine (HWK.out _ _ q2 (HAL.out _)).mono ?_; rintro e w7 ⟨rfl, hp3⟩))
            exact ⟨⟨k + 1, Y, rfl, rfl, rfl, by omega, HL3.out, hp3⟩, by simp [intOf]; omega⟩
          · have c1 : ((E : Int) == 0) = false := beq_false_of_ne (by omega)
            have hE1 : ¬ E = 0 := by omega
            rw [hW] at HQ
            clear hpl hbw hbW hW hsW hst2 hwf hdw HPW HOW HOO hE hY hbm hdm hs2 hlst hE0
            subst hX
            go_wp2_with fail
            go_at_call 10
            refine (HCR.out _ HQ.out).mono ?_
            rintro e w1 ⟨rfl, q1⟩
            go_wp2_with (first
              | (go_at_call 11; refine (HN.out _ _).mono ?_; rintro e w6 ⟨rfl, hw6⟩; subst w6)
              | (go_at_call 14; refine (HWK.out _ _ q1 (Below.refl _ _)).mono ?_; rintro e w7 ⟨rfl, hp3⟩))
            exact ⟨⟨k + 1, lst, rfl, rfl, rfl, by omega, HL2.out, hp3⟩, by simp [intOf]; omega⟩
        · have k2 : (kind == 1) = false := by simp [hch]
          have HCH : Hid (Calls Try.prog 13 #[.pointer (some ⟨p, 0, none⟩), .agg #[.int .i64 kind, .int .i64 on, .int .i64 nn, .string a, .string bb, .int .i64 m0, .int .i64 m1, .int .i64 m2, .int .i64 m3, .slice ao2 cl2 cp2]] W fun e w' => (∃ z : Int, e = .returned (.int .i64 z)) ∧ Run PS w.heap.size p cn (st.step ⟨kind, on, nn, a, bb, m0, m1, m2, m3, .slice ao2 cl2 cp2, cuts⟩) (k + 1) w' ∧ Below w.heap.size W w') := (run_do (o := ⟨kind, on, nn, a, bb, m0, m1, m2, m3, .slice ao2 cl2 cp2, cuts⟩) C HPW.out.1 (by omega) hsW HOW.out).mono (by
            rintro e w' ⟨rfl, h1, h2⟩; exact ⟨⟨_, rfl⟩, h1, h2⟩)
          have HWK : Hid (∀ W', Run PS w.heap.size p cn (st.step ⟨kind, on, nn, a, bb, m0, m1, m2, m3, .slice ao2 cl2 cp2, cuts⟩) (k + 1) W' → Below w.heap.size W W' → Calls Try.prog 14 #[.pointer (some ⟨p, 0, none⟩)] W' fun e w' => e = .returned (.bool true) ∧ Run PS w.heap.size p cn ((St.start cn).play (ops.take (k + 1))) (k + 1) w' ∧ Below w.heap.size w w') := fun W' r3 hb => by
            have hbb := HPW.out.2.trans hb
            obtain ⟨F, t⟩ := r3.one
            refine (wellKept_c C w.heap.size F p _ W' t r3.wf r3.dw hbb.size).mono ?_
            rintro e w' ⟨rfl, t', hb'⟩
            rw [HST.out]
            exact ⟨rfl, ⟨⟨F, t'⟩, r3.wf, r3.dw, r3.cap, r3.bodies, r3.dirs⟩, hbb.trans hb'⟩
          have HL2 : Hid (lst ≤ ((St.start cn).play (ops.take (k + 1))).bodies.length) := by
            show _ ≤ _
            rw [HST.out]; exact Nat.le_trans hlst (step_more _ _)
          rw [hW] at HCH HWK
          clear hW hsW hpl hbw hbW hlst HPW
          go_wp2_with fail
          go_at_call 13
          refine HCH.out.mono ?_
          rintro e w3 ⟨⟨z, rfl⟩, hp3, hb3⟩
          go_wp2_with (go_at_call 14; refine (HWK.out _ hp3 hb3).mono ?_; rintro e w7 ⟨rfl, hp4⟩)
          exact ⟨⟨k + 1, lst, rfl, rfl, rfl, by omega, HL2.out, hp4⟩, by simp [intOf]; omega⟩
      · obtain rfl : k = n := by omega
        have b1 : decide ((k : Int) < (k : Int)) = false := by simp
        clear hpl
        go_wp2
        go_ret
        exact ⟨rfl, hbw⟩
end Go.Proofs.Ytodjgbmfmpbkjab
