-- DiskRoom's walk.
import Derived.Test.YtodjgbmfmpbkjaaN2
import Derived.Deep.RegionWith
namespace Go.Proofs.Ytodjgbmfmpbkjaa
open Go.RowKit
set_option linter.unusedVariables false
variable {PS : (Nat → Prop) → Nat → St → World → Prop}
/-- The volume st, a box of the statement's beside it that stands still. -/
def Bq (PS : (Nat → Prop) → Nat → St → World → Prop) (B p x : Nat) (X : Obj) (st : St) (w0 w : World) : Prop :=
  w.heap[x]? = some X ∧ Wf st ∧ Below B w0 w ∧ B ≤ w.heap.size ∧ ∃ F, One PS B F p st w ∧ ¬ F x
theorem Bq.same (C : PC PS) {B p x : Nat} {X : Obj} {st : St} {w0 w w' : World} (h : Bq PS B p x X st w0 w) (e1 : w'.heap = w.heap) (e2 : w'.os = w.os) (e3 : w'.tape = w.tape) (e4 : w'.output = w.output) : Bq PS B p x X st w0 w' := by
  obtain ⟨h1, h2, h3, h4, F, h5, h6⟩ := h
  have hb : Below w.heap.size w w' := ⟨e2, e3, e4, by rw [e1]; exact Nat.le_refl _, fun k _ => by rw [e1]⟩
  exact ⟨by rw [e1]; exact h1, h2, h3.trans (hb.mono h4), by rw [e1]; exact h4, F, h5.below C hb, h6⟩
theorem Bq.ask {B p x : Nat} {X : Obj} {st : St} {w0 w : World} {f : FuncId} {args : Array Value} {v : Value} (h : Bq PS B p x X st w0 w)
    (hc : ∀ F, PS F p st w → Wf st → Calls Try.prog f args w fun e w' => e = .returned v ∧ PS F p st w' ∧ Kp F w w') :
    Calls Try.prog f args w fun e w' => e = .returned v ∧ Bq PS B p x X st w0 w' := by
  obtain ⟨h1, h2, h3, h4, F, h5, h6⟩ := h
  refine (hc F h5.d h2).mono ?_
  rintro e w' ⟨rfl, hd⟩
  have hx : x < w.heap.size := (Array.getElem?_eq_some_iff.1 h1).1
  obtain ⟨o1, o2⟩ := h5.ask h4 hd
  exact ⟨rfl, by rw [hd.2.block x hx h6]; exact h1, h2, h3.trans o2, by have := hd.2.size; omega, F, o1, h6⟩
theorem Bq.app (C : PC PS) {B p x : Nat} {X : Obj} {st : St} {w0 w : World} (n : Int) (a : ByteArray) (ha : a.size ≤ 2097152) (h : Bq PS B p x X st w0 w) :
    Calls Try.prog 13 #[.pointer (some ⟨p, 0, none⟩), .int .i64 n, .string a] w fun e w' => e = .returned (.int .i64 (st.append n a).1) ∧ Bq PS B p x X (st.append n a).2 w0 w' := by
  obtain ⟨h1, h2, h3, h4, F, h5, h6⟩ := h
  refine (C.append F p st n a w h5.d h2 (by omega)).mono ?_
  rintro e w' ⟨rfl, hd⟩
  have hx : x < w.heap.size := (Array.getElem?_eq_some_iff.1 h1).1
  obtain ⟨o1, o2⟩ := h5.did h4 hd
  refine ⟨rfl, by rw [hd.2.block x hx h6]; exact h1, (append_fine h2 n a).wf, h3.trans o2, by have := hd.2.size; omega, _, o1, fun h => ?_⟩
  rcases h with h | h
  · exact h6 h
  · omega
theorem Bq.cells {B p x : Nat} {k0 k1 k2 : Int} {a b : ByteArray} {v5 v6 v7 v8 v9 : Value} {t : TypeId} {st : St} {w0 w : World} (h : Bq PS B p x (.cells #[.int .i64 k0, .int .i64 k1, .int .i64 k2, .string a, .string b, v5, v6, v7, v8, v9] t) st w0 w) :
    w.cell? ⟨x, 2, none⟩ = some (.int .i64 k2) ∧ w.cell? ⟨x, 3, none⟩ = some (.string a) := by
  have h1 := h.1
  constructor <;> simp [World.cell?, h1]
theorem room_full {a : ByteArray} (h : a ≠ ⟨#[]⟩) : ¬ a.toList = [] := fun e => h (by
  rw [ByteArray.toList_eq] at e
  obtain ⟨⟨l⟩⟩ := a
  simp at e
  subst e
  rfl)
/-- What an Append and the questions around it answer. -/
theorem room_facts (st : St) (n : Int) (a : ByteArray) (hw : Wf st) (hd : DW st) :
    (st.read n = (⟨#[]⟩, 34) ∧ (st.append n a).1 = 34 ∧ (st.append n a).2 = st) ∨
    (∃ r : ByteArray, st.read n = (r, 0) ∧ r.size ≤ 1073741824 ∧ ((a ≠ ⟨#[]⟩ ∧ st.cap < st.used + a.size ∧ (st.append n a).1 = 31 ∧ (st.append n a).2 = st) ∨
      (¬ (a ≠ ⟨#[]⟩ ∧ st.cap < st.used + a.size) ∧ (st.append n a).1 = 0 ∧ (st.append n a).2.read n = (r ++ a, 0) ∧ (st.append n a).2.used = st.used + a.size))) := by
  unfold St.read St.append
  cases h : st.at_ n with
  | none => left; exact ⟨rfl, rfl, rfl⟩
  | some b =>
    right
    have hb : b.data.size ≤ 1073741824 := by
      unfold St.at_ at h
      split at h
      · exact (hw.bod b (List.mem_of_getElem? h)).1
      · cases h
    refine ⟨b.data, rfl, hb, ?_⟩
    simp only
    by_cases hf : a ≠ ⟨#[]⟩ ∧ st.cap < st.used + a.size
    · left; rw [if_pos hf]; exact ⟨hf.1, hf.2, rfl, rfl⟩
    · right; rw [if_neg hf]
      refine ⟨hf, rfl, ?_, ?_⟩
      · simp only [put_at hw h]
      · have := put_used hw hd (b' := { b with data := b.data ++ a }) h
        simp only [ByteArray.size_append] at this
        simp only
        omega
set_option maxRecDepth 100000 in
set_option maxHeartbeats 8000000 in
theorem diskRoom_w (C : PC PS) (c : Int) (v : Value) (ops : List Opx) (w : World) (hv : RowO w v ops) (hok : ∀ (j : Nat) (o : Opx), ops[j]? = some o → OpOk w.heap.size o w) (hl : ops.length ≤ 1048576) :
    Calls Try.prog 4 #[.int .i64 c, v] w fun e w' => e = .returned (.bool true) ∧ Below w.heap.size w w' := by
  obtain ⟨ao, cp, hvs⟩ : ∃ ao cp, v = .slice ao ops.length cp := by
    rcases hv with ⟨rfl, ao, c, rfl⟩ | ⟨b, off, cap, rfl, _⟩
    · exact ⟨_, _, rfl⟩
    · exact ⟨_, _, rfl⟩
  by_cases hc : c < 0 ∨ 1073741824 < c
  · have HD : Hid (∀ w, Calls Try.prog 18 #[.int .i64 c] w fun e w' => e = .returned (.tuple #[.pointer none, .bool true]) ∧ Below w.heap.size w w') := fun w => started_no C c w hc
    clear hc hok hv
    subst hvs
    go_enter Try.func4, Try.ntmps4
    go_wp2_with (go_at_call 18; refine (HD.out _).mono ?_; rintro e w1 ⟨rfl, hb1⟩)
    go_ret
    exact ⟨rfl, hb1⟩
  · obtain ⟨cn, rfl⟩ := Int.eq_ofNat_of_zero_le (show 0 ≤ c by omega)
    have hcn : cn ≤ 1073741824 := by omega
    have HD : Hid (Calls Try.prog 18 #[.int .i64 (cn : Int)] w fun e w' => ∃ p, e = .returned (.tuple #[.pointer (some ⟨p, 0, none⟩), .bool true]) ∧ Run PS w.heap.size p cn (St.start cn) 0 w' ∧ Below w.heap.size w w') := run_start C cn w hcn
    have HOK : Hid (∀ (j : Nat) (o : Opx), ops[j]? = some o → OpOk w.heap.size o w) := hok
    have HV : Hid (RowO w v ops) := hv
    obtain ⟨n, hn⟩ : ∃ n, n = ops.length := ⟨_, rfl⟩
    have HNN : Hid (n = ops.length) := hn
    rw [← hn] at hl hvs
    subst hvs
    clear hc hok hv hn
    go_enter Try.func4, Try.ntmps4
    go_wp2_with (go_at_call 18; refine HD.out.mono ?_; rintro e w1 ⟨p, rfl, r1, hb1⟩)
    have HP0 : Hid (Run PS w.heap.size p cn (St.start cn) 0 w1 ∧ Below w.heap.size w w1) := ⟨r1, hb1⟩
    clear r1 hb1 HD
    go_loopw [6, 7] (fun o i wr => ∃ k : Nat, i = .int .i64 k ∧ o = .bool true ∧ k ≤ n ∧ Run PS w.heap.size p cn ((St.start cn).play (ops.take k)) k wr ∧ Below w.heap.size w wr) (fun _ i _ => n - (intOf i).toNat)
    case atStart => exact ⟨0, rfl, rfl, Nat.zero_le _, HP0.out.1, HP0.out.2⟩
    case round =>
      obtain ⟨k, rfl, rfl, hkn, hpl, hbw⟩ := hrel
      have hbs := hbw.size
      by_cases hk : k < n
      · have hkl : k < ops.length := by rw [← HNN.out]; exact hk
        obtain ⟨o, hok⟩ : ∃ o, ops[k]? = some o := ⟨_, List.getElem?_eq_getElem hkl⟩
        have hoo := HOK.out k o hok
        obtain ⟨b, off, rfl, hbl, hat⟩ : ∃ b off, ao = some ⟨b, off, none⟩ ∧ b < w.heap.size ∧ OpAt w b (off + k * 10) o := by
          rcases HV.out with ⟨h0, _⟩ | ⟨b, off, cap, hv, hb, hc⟩
          · rw [h0] at hkl; simp at hkl
          · cases hv; exact ⟨b, off, rfl, hb, hc k o hok⟩
        have hat2 := hat.below hbw hbl
        have HST : Hid ((St.start cn).play (ops.take (k + 1)) = ((St.start cn).play (ops.take k)).step o) := play_take _ _ _ _ hok
        obtain ⟨st, hst⟩ : ∃ st, st = (St.start cn).play (ops.take k) := ⟨_, rfl⟩
        rw [← hst] at hpl HST
        clear hst hok hat
        obtain ⟨ao2, cl2, cp2, hcv⟩ := hoo.slice
        have HOO : Hid (OpOk w.heap.size o w) := hoo
        obtain ⟨kind, on, nn, a, bb, m0, m1, m2, m3, cv, cuts⟩ := o
        simp only at hcv
        subst hcv
        obtain ⟨e0, e1, e2, e3, e4, e5, e6, e7, e8, e9⟩ := hat2
        simp only at e0 e1 e2 e3 e4 e5 e6 e7 e8 e9
        clear hoo
        have b1 : decide ((k : Int) < (n : Int)) = true := by simp; omega
        have i1 : (k : Int) < (n : Int) := by omega
        have i2 : (0 : Int) ≤ (k : Int) := by omega
        obtain ⟨W, hW⟩ : ∃ W, W = wr.alloc (.cells #[.int .i64 kind, .int .i64 on, .int .i64 nn, .string a, .string bb, .int .i64 m0, .int .i64 m1, .int .i64 m2, .int .i64 m3, .slice ao2 cl2 cp2] 46) := ⟨_, rfl⟩
        have hbW : Below wr.heap.size wr W := by rw [hW]; exact (Below.refl _ wr).alloc (Nat.le_refl _) _
        have HOW : Hid (OpOk w.heap.size ⟨kind, on, nn, a, bb, m0, m1, m2, m3, .slice ao2 cl2 cp2, cuts⟩ W) := HOO.out.below (hbw.trans (hbW.mono hbs)) (Nat.le_refl _)
        have HPW : Hid (Run PS w.heap.size p cn st k W ∧ Below w.heap.size w W) := ⟨hpl.below C hbW, hbw.trans (hbW.mono hbs)⟩
        have hsW := HPW.out.2.size
        by_cases hch : kind = 2
        · subst hch
          have hwf := HPW.out.1.wf
          have hdw := HPW.out.1.dw
          have hcap := HPW.out.1.cap
          have hasz : a.size ≤ 2097152 := HOW.out.small
          have hul : st.used ≤ 68719476736 := by
            have h1 := usedIn_le hwf st.now
            have h2 := hwf.few _ (now_mem hwf)
            have h3 : st.used = usedIn st.bodies st.now := rfl
            omega
          obtain ⟨X, hX⟩ : ∃ X, X = Obj.cells #[.int .i64 2, .int .i64 on, .int .i64 nn, .string a, .string bb, .int .i64 m0, .int .i64 m1, .int .i64 m2, .int .i64 m3, .slice ao2 cl2 cp2] 46 := ⟨_, rfl⟩
          obtain ⟨st2, hst2⟩ : ∃ st2, st2 = (st.append nn a).2 := ⟨_, rfl⟩
          have HQ : Hid (Bq PS w.heap.size p wr.heap.size X st w W) := by
            obtain ⟨F, t0⟩ := hpl.one
            exact ⟨by rw [hW, hX]; exact heap_alloc_new wr _, hwf, HPW.out.2, hsW, F, t0.below C hbW, fun h => by have := (t0.lo _ h).2; omega⟩
          have HA : Hid (∀ w1, Bq PS w.heap.size p wr.heap.size X st w w1 → Calls Try.prog 13 #[.pointer (some ⟨p, 0, none⟩), .int .i64 nn, .string a] w1 fun e w' => e = .returned (.int .i64 (st.append nn a).1) ∧ Bq PS w.heap.size p wr.heap.size X st2 w w') := fun w1 h => by rw [hst2]; exact h.app C nn a hasz
          have HR1 : Hid (∀ w1, Bq PS w.heap.size p wr.heap.size X st w w1 → Calls Try.prog 11 #[.pointer (some ⟨p, 0, none⟩), .int .i64 nn] w1 fun e w' => e = .returned (.tuple #[.string (st.read nn).1, .int .i64 (st.read nn).2]) ∧ Bq PS w.heap.size p wr.heap.size X st w w') := fun w1 h => h.ask fun F a b => C.read F p st nn w1 a b
          have HR2 : Hid (∀ w1, Bq PS w.heap.size p wr.heap.size X st2 w w1 → Calls Try.prog 11 #[.pointer (some ⟨p, 0, none⟩), .int .i64 nn] w1 fun e w' => e = .returned (.tuple #[.string (st2.read nn).1, .int .i64 (st2.read nn).2]) ∧ Bq PS w.heap.size p wr.heap.size X st2 w w') := fun w1 h => h.ask fun F a b => C.read F p st2 nn w1 a b
          have HU1 : Hid (∀ w1, Bq PS w.heap.size p wr.heap.size X st w w1 → Calls Try.prog 16 #[.pointer (some ⟨p, 0, none⟩)] w1 fun e w' => e = .returned (.int .i64 st.used) ∧ Bq PS w.heap.size p wr.heap.size X st w w') := fun w1 h => h.ask fun F a b => C.used F p st w1 a b
          have HU2 : Hid (∀ w1, Bq PS w.heap.size p wr.heap.size X st2 w w1 → Calls Try.prog 16 #[.pointer (some ⟨p, 0, none⟩)] w1 fun e w' => e = .returned (.int .i64 st2.used) ∧ Bq PS w.heap.size p wr.heap.size X st2 w w') := fun w1 h => h.ask fun F a b => C.used F p st2 w1 a b
          have HN : Hid (∀ (n : Int) w, Calls Try.prog 14 #[.int .i64 n] w fun e w' => e = .returned (.int .i64 n) ∧ w' = w) := fun n w => num_c n w
          have HEND : Hid (∀ w1, Bq PS w.heap.size p wr.heap.size X st2 w w1 → Run PS w.heap.size p cn ((St.start cn).play (ops.take (k + 1))) (k + 1) w1 ∧ Below w.heap.size w w1) := fun w1 h => by
            obtain ⟨h1, h2, h3, h4, F, h5, h6⟩ := h
            rw [HST.out]
            have hs2 : st.step ⟨2, on, nn, a, bb, m0, m1, m2, m3, .slice ao2 cl2 cp2, cuts⟩ = st2 := by rw [hst2]; rfl
            exact ⟨HPW.out.1.step (by omega) _ ⟨F, by rw [hs2]; exact h5⟩, h3⟩
          have hfacts := room_facts st nn a hwf hdw
          rw [← hst2] at hfacts
          rw [hW] at HQ
          obtain ⟨u, hu⟩ : ∃ u, u = st.used := ⟨_, rfl⟩
          rw [← hu] at HU1 hfacts hul
          rw [hcap] at hfacts
          clear hpl hbw hbW hW hsW hst2 hwf hdw hcap HPW HOW HST HOO
          have u1 : (u : Int) + (a.size : Int) ≤ 9223372036854775807 := by omega
          rcases hfacts with ⟨f1, f2, f3⟩ | ⟨r, f1, f2, f3⟩
          · have e1 : st2.read nn = (⟨#[]⟩, 34) := by rw [f3]; exact f1
            have e2 : st2.used = u := by rw [f3, hu]
            rw [f1] at HR1
            rw [f2] at HA
            rw [e1] at HR2
            rw [e2] at HU2
            clear f1 f2 f3 e1 e2 hu
            simp only at HR1 HR2
            subst hX
            go_wp2_with fail
            refine (HR1.out _ HQ.out).mono ?_
            rintro e w1 ⟨rfl, q1⟩
            obtain ⟨hx1, hy1⟩ := q1.cells
            go_wp2_with fail
            refine (HU1.out _ q1).mono ?_
            rintro e w2 ⟨rfl, q2⟩
            obtain ⟨hx2, hy2⟩ := q2.cells
            go_wp2_with fail
            refine (HA.out _ q2).mono ?_
            rintro e w3 ⟨rfl, q3⟩
            obtain ⟨hx3, hy3⟩ := q3.cells
            go_wp2_with fail
            refine (HR2.out _ q3).mono ?_
            rintro e w4 ⟨rfl, q4⟩
            obtain ⟨hx4, hy4⟩ := q4.cells
            go_wp2_with (first
              | (go_at_call 16; refine (HU2.out _ q4).mono ?_; rintro e w5 ⟨rfl, q5⟩; obtain ⟨hx5, hy5⟩ := q5.cells)
              | (go_at_call 14; refine (HN.out _ _).mono ?_; rintro e w6 ⟨rfl, hw6⟩; subst w6))
            exact ⟨⟨k + 1, rfl, rfl, by omega, HEND.out _ q5⟩, by simp [intOf]; omega⟩
          · have i7 : ¬ ((9223372036854775807 : Int) < (r.size : Int) + (a.size : Int)) := by omega
            rcases f3 with ⟨g1, g2, g3, g4⟩ | ⟨g1, g2, g3, g4⟩
            · have b1 := room_full g1
              have b3 : a.toList.isEmpty = false := by simp [b1]
              have b2 : decide ((cn : Int) < (u : Int) + (a.size : Int)) = true := by simp; omega
              have e1 : st2.read nn = (r, 0) := by rw [g4]; exact f1
              have e2 : st2.used = u := by rw [g4, hu]
              rw [f1] at HR1
              rw [g3] at HA
              rw [e1] at HR2
              rw [e2] at HU2
              clear f1 f2 g1 g2 g3 g4 e1 e2 hu
              simp only at HR1 HR2
              subst hX
              go_wp2_with fail
              refine (HR1.out _ HQ.out).mono ?_
              rintro e w1 ⟨rfl, q1⟩
              obtain ⟨hx1, hy1⟩ := q1.cells
              go_wp2_with fail
              refine (HU1.out _ q1).mono ?_
              rintro e w2 ⟨rfl, q2⟩
              obtain ⟨hx2, hy2⟩ := q2.cells
              go_wp2_with fail
              refine (HA.out _ q2).mono ?_
              rintro e w3 ⟨rfl, q3⟩
              obtain ⟨hx3, hy3⟩ := q3.cells
              go_wp2_with fail
              refine (HR2.out _ q3).mono ?_
              rintro e w4 ⟨rfl, q4⟩
              obtain ⟨hx4, hy4⟩ := q4.cells
              go_wp2_with (first
                | (go_at_call 16; refine (HU2.out _ q4).mono ?_; rintro e w5 ⟨rfl, q5⟩; obtain ⟨hx5, hy5⟩ := q5.cells)
                | (go_at_call 14; refine (HN.out _ _).mono ?_; rintro e w6 ⟨rfl, hw6⟩; subst w6))
              exact ⟨⟨k + 1, rfl, rfl, by omega, HEND.out _ q5⟩, by simp [intOf]; omega⟩
            · have b13 : (a.toList = [] ∧ a.toList.isEmpty = true) ∨ (¬ a.toList = [] ∧ a.toList.isEmpty = false ∧ decide ((cn : Int) < (u : Int) + (a.size : Int)) = false) := by
                by_cases ha : a = ⟨#[]⟩
                · left; rw [ha]; exact ⟨by rw [ByteArray.toList_eq], by rw [ByteArray.toList_eq]; rfl⟩
                · have b1 := room_full ha
                  right; refine ⟨b1, by simp [b1], ?_⟩
                  have : ¬ cn < u + a.size := fun h => g1 ⟨ha, h⟩
                  simp; omega
              have e2 : ((st2.used : Nat) : Int) = (u : Int) + (a.size : Int) := by rw [g4]; omega
              rw [f1] at HR1
              rw [g2] at HA
              rw [g3] at HR2
              rw [e2] at HU2
              clear f1 f2 g1 g2 g3 g4 e2 hu
              simp only at HR1 HR2
              subst hX
              rcases b13 with ⟨b1, b3⟩ | ⟨b1, b3, b2⟩
              all_goals
                go_wp2_with fail
                refine (HR1.out _ HQ.out).mono ?_
                rintro e w1 ⟨rfl, q1⟩
                obtain ⟨hx1, hy1⟩ := q1.cells
                go_wp2_with fail
                refine (HU1.out _ q1).mono ?_
                rintro e w2 ⟨rfl, q2⟩
                obtain ⟨hx2, hy2⟩ := q2.cells
                go_wp2_with fail
                refine (HA.out _ q2).mono ?_
                rintro e w3 ⟨rfl, q3⟩
                obtain ⟨hx3, hy3⟩ := q3.cells
                go_wp2_with fail
                refine (HR2.out _ q3).mono ?_
                rintro e w4 ⟨rfl, q4⟩
                obtain ⟨hx4, hy4⟩ := q4.cells
                have HU4 : Hid (∀ w1 : World, w1.heap = w4.heap → w1.os = w4.os → w1.tape = w4.tape → w1.output = w4.output → Calls Try.prog 16 #[.pointer (some ⟨p, 0, none⟩)] w1 fun e w' => e = .returned (.int .i64 ((u : Int) + (a.size : Int))) ∧ Bq PS w.heap.size p wr.heap.size _ st2 w w') := fun w1 e1 e2 e3 e4 => HU2.out _ (q4.same C e1 e2 e3 e4)
                have hwr : IntKind.i64.wrap ((u : Int) + (a.size : Int)) = (u : Int) + (a.size : Int) := wrap_i64 (by omega)
                clear q1 q2 q3 hx1 hx2 hx3 hy1 hy2 hy3 HR1 HR2 HU1 HU2 HA
                go_wp2_with (go_at_call 14; refine (HN.out _ _).mono ?_; rintro e w6 ⟨rfl, hw6⟩; subst w6)
                go_region_with (first
                  | (go_at_call 16; refine (HU4.out _ ?_ ?_ ?_ ?_).mono ?_; rfl; rfl; rfl; rfl; rintro e w5 ⟨rfl, q5⟩; obtain ⟨hx5, hy5⟩ := q5.cells)
                  | (go_at_call 14; refine (HN.out _ _).mono ?_; rintro e w6 ⟨rfl, hw6⟩; subst w6))
                all_goals
                  go_wp2
                  exact ⟨⟨k + 1, rfl, rfl, by omega, HEND.out _ (q5.same C rfl rfl rfl rfl)⟩, by simp [intOf]; omega⟩
        · have k2 : (kind != 2) = true := by simp [hch]
          have HCH : Hid (Calls Try.prog 19 #[.pointer (some ⟨p, 0, none⟩), .agg #[.int .i64 kind, .int .i64 on, .int .i64 nn, .string a, .string bb, .int .i64 m0, .int .i64 m1, .int .i64 m2, .int .i64 m3, .slice ao2 cl2 cp2]] W fun e w' => (∃ z : Int, e = .returned (.int .i64 z)) ∧ Run PS w.heap.size p cn (st.step ⟨kind, on, nn, a, bb, m0, m1, m2, m3, .slice ao2 cl2 cp2, cuts⟩) (k + 1) w' ∧ Below w.heap.size W w') := (run_do (o := ⟨kind, on, nn, a, bb, m0, m1, m2, m3, .slice ao2 cl2 cp2, cuts⟩) C HPW.out.1 (by omega) hsW HOW.out).mono (by
            rintro e w' ⟨rfl, h1, h2⟩; exact ⟨⟨_, rfl⟩, h1, h2⟩)
          rw [hW] at HCH HPW
          clear hW hch hsW hpl hbw hbW
          go_wp2_with (go_at_call 19; refine HCH.out.mono ?_; rintro e w3 ⟨⟨z, rfl⟩, hp3, hb3⟩)
          exact ⟨⟨k + 1, rfl, rfl, by omega, by rw [HST.out]; exact hp3, HPW.out.2.trans hb3⟩, by simp [intOf]; omega⟩
      · obtain rfl : k = n := by omega
        have b1 : decide ((k : Int) < (k : Int)) = false := by simp
        clear hpl
        go_wp2
        go_ret
        exact ⟨rfl, hbw⟩
end Go.Proofs.Ytodjgbmfmpbkjaa
