
-- begin.
import Derived.Test.YtnnpdomfkedhpaaPS
namespace Go.Proofs.Ytnnpdomfkedhpaa
open Go.ChangeShapes Go.WideShapes Go.ChangeAt Go.RowKit Go.MapKept
set_option linter.unusedVariables false
set_option maxRecDepth 100000
set_option maxHeartbeats 8000000 in
theorem begin_c (vd vw vp : Value) (d wl : List ByteArray) (p : List (Int × Int)) (w : World) (hd : RowT w vd d) (hw : RowT w vw wl) (hp : RowP w vp p) (n1 : d.length ≤ 4398046511104) (n2 : wl.length ≤ 4398046511104) (n3 : p.length ≤ 4398046511104) :
    Calls Try.prog 11 #[.agg #[vd, vw, vp]] w fun e w' => ∃ g, e = .returned (.pointer (some ⟨g, 0, none⟩)) ∧ PgAt (fun b => w.heap.size ≤ b) g ⟨d, wl, p⟩ wl w' ∧ Below w.heap.size w w' := by
  obtain ⟨X, hX⟩ : ∃ X, X = Obj.cells #[vd, vw, vp] 32 := ⟨_, rfl⟩
  have hbA : Below w.heap.size w (w.alloc X) := (Below.refl _ w).alloc (Nat.le_refl _) X
  obtain ⟨wB, hwB⟩ : ∃ wB, wB = w.alloc X := ⟨_, rfl⟩
  rw [← hwB] at hbA
  have x0 : wB.heap[w.heap.size]? = some (.cells #[vd, vw, vp] 32 (0, 0)) := by rw [hwB, heap_alloc_new, hX]
  have hsz : wB.heap.size = w.heap.size + 1 := by rw [hwB]; simp
  have hc0 : ∀ W, Below wB.heap.size wB W → W.cell? ⟨w.heap.size, 0, none⟩ = some vd := fun W hb => cell_rowK (hkeepK hb x0) 0 _ rfl
  have hc1 : ∀ W, Below wB.heap.size wB W → W.cell? ⟨w.heap.size, 1, none⟩ = some vw := fun W hb => cell_rowK (hkeepK hb x0) 1 _ rfl
  have hc2 : ∀ W, Below wB.heap.size wB W → W.cell? ⟨w.heap.size, 2, none⟩ = some vp := fun W hb => cell_rowK (hkeepK hb x0) 2 _ rfl
  have hdB := hd.on hbA
  have hwB2 := hw.on hbA
  have hpB := hp.on hbA
  have H1 : Hid (∀ W, Below wB.heap.size wB W → Calls Try.prog 16 #[vd] W fun e w' => ∃ a n c, e = .returned (.slice a n c) ∧ (OwnF (fun b => W.heap.size ≤ b) txL 1 9 w' (.slice a n c) d ∧ Below W.heap.size W w') ∧ Below wB.heap.size wB w') := fun W hb => (cloneS_c vd d W (hdB.on hb) n1).mono (by
    rintro e w' ⟨u, rfl, q1, q2⟩
    obtain ⟨a, c, rfl, _⟩ := q1.form
    exact ⟨a, _, c, rfl, ⟨q1, q2⟩, bel3K hb q2⟩)
  have H2 : Hid (∀ W, Below wB.heap.size wB W → Calls Try.prog 16 #[vw] W fun e w' => ∃ a n c, e = .returned (.slice a n c) ∧ (OwnF (fun b => W.heap.size ≤ b) txL 1 9 w' (.slice a n c) wl ∧ Below W.heap.size W w') ∧ Below wB.heap.size wB w') := fun W hb => (cloneS_c vw wl W (hwB2.on hb) n2).mono (by
    rintro e w' ⟨u, rfl, q1, q2⟩
    obtain ⟨a, c, rfl, _⟩ := q1.form
    exact ⟨a, _, c, rfl, ⟨q1, q2⟩, bel3K hb q2⟩)
  have H3 : Hid (∀ W, Below wB.heap.size wB W → Calls Try.prog 17 #[vp] W fun e w' => ∃ a n c, e = .returned (.slice a n c) ∧ (OwnF (fun b => W.heap.size ≤ b) paL 2 56 w' (.slice a n c) p ∧ Below W.heap.size W w') ∧ Below wB.heap.size wB w') := fun W hb => (cloneP_c vp p W (hpB.on hb) n3).mono (by
    rintro e w' ⟨u, rfl, q1, q2⟩
    obtain ⟨a, c, rfl, _⟩ := q1.form
    exact ⟨a, _, c, rfl, ⟨q1, q2⟩, bel3K hb q2⟩)
  have H4 : Hid (∀ W, Below wB.heap.size wB W → Calls Try.prog 18 #[vd] W fun e w' => ∃ b, e = .returned (.map (some b)) ∧ (b = W.heap.size ∧ SetS w' b (setF d) ∧ Below W.heap.size W w') ∧ Below wB.heap.size wB w') := fun W hb => (setOfS_c vd d W (hdB.on hb) (by omega)).mono (by
    rintro e w' ⟨b, rfl, q1, q2, q3⟩
    exact ⟨b, rfl, ⟨q1, q2, q3⟩, bel3K hb q3⟩)
  have H5 : Hid (∀ W, Below wB.heap.size wB W → Calls Try.prog 18 #[vw] W fun e w' => ∃ b, e = .returned (.map (some b)) ∧ (b = W.heap.size ∧ SetS w' b (setF wl) ∧ Below W.heap.size W w') ∧ Below wB.heap.size wB w') := fun W hb => (setOfS_c vw wl W (hwB2.on hb) (by omega)).mono (by
    rintro e w' ⟨b, rfl, q1, q2, q3⟩
    exact ⟨b, rfl, ⟨q1, q2, q3⟩, bel3K hb q3⟩)
  have H6 : Hid (∀ W, Below wB.heap.size wB W → Calls Try.prog 19 #[vp] W fun e w' => ∃ b, e = .returned (.map (some b)) ∧ (b = W.heap.size ∧ SetP w' b (setF p) ∧ Below W.heap.size W w') ∧ Below wB.heap.size wB w') := fun W hb => (setOfP_c vp p W (hpB.on hb) (by omega)).mono (by
    rintro e w' ⟨b, rfl, q1, q2, q3⟩
    exact ⟨b, rfl, ⟨q1, q2, q3⟩, bel3K hb q3⟩)
  have hb0 : Below wB.heap.size wB wB := Below.refl _ _
  have HBA := hidK hbA
  have HSZ := hidK hsz
  clear hd hw hp hdB hwB2 hpB x0 n1 n2 n3 hbA hsz
  subst hX
  go_enter Try.func11, Try.ntmps11
  go_wp2
  rw [← hwB]
  clear hwB
  go_region_held3 (fun w' => Below wB.heap.size wB w') (first | assumption | exact hb0.drew | exact hSw.drew | exact bupK hSw _ | exact bupK hS6 _) (first
    | (go_at_call_of 16 vd; refine (H1.out _ (by assumption)).mono ?_; rintro e w1 ⟨a1, n1, c1, rfl, hq1, hS1⟩; have HQ1 := hidK hq1; clear hq1)
    | (go_at_call_of 16 vw; refine (H2.out _ (by assumption)).mono ?_; rintro e w2 ⟨a2, n2, c2, rfl, hq2, hS2⟩; have HQ2 := hidK hq2; clear hq2)
    | (go_at_call 17; refine (H3.out _ (by assumption)).mono ?_; rintro e w3 ⟨a3, n3, c3, rfl, hq3, hS3⟩; have HQ3 := hidK hq3; clear hq3)
    | (go_at_call_of 18 vd; refine (H4.out _ (by assumption)).mono ?_; rintro e w4 ⟨b4, rfl, hq4, hS4⟩; have HQ4 := hidK hq4; clear hq4)
    | (go_at_call_of 18 vw; refine (H5.out _ (by assumption)).mono ?_; rintro e w5 ⟨b5, rfl, hq5, hS5⟩; have HQ5 := hidK hq5; clear hq5)
    | (go_at_call 19; refine (H6.out _ (by assumption)).mono ?_; rintro e w6 ⟨b6, rfl, hq6, hS6⟩; have HQ6 := hidK hq6; clear hq6))
  obtain ⟨o1, k1⟩ := HQ1.out
  obtain ⟨o2, k2⟩ := HQ2.out
  obtain ⟨o3, k3⟩ := HQ3.out
  obtain ⟨e4, o4, k4⟩ := HQ4.out
  obtain ⟨e5, o5, k5⟩ := HQ5.out
  obtain ⟨e6, o6, k6⟩ := HQ6.out
  have s1 : w.heap.size ≤ w1.heap.size := by have := HSZ.out; have := hS1.size; omega
  have s2 := k2.size
  have s3 := k3.size
  have s4 := o4.lt
  have s5 := o5.lt
  have s6 := o6.lt
  have t4 := k4.size
  have t5 := k5.size
  have t6 := k6.size
  have hsB := HSZ.out
  have k7 : Below w6.heap.size w6 (w6.alloc (.cells #[.slice a1 n1 c1, .slice a2 n2 c2, .slice a3 n3 c3, .map (some b4), .map (some b5), .map (some b6)] 66)) := (Below.refl _ _).alloc (Nat.le_refl _) _
  have HX : Hid (PgX (fun b => w.heap.size ≤ b) w6.heap.size d wl p d wl p (w6.alloc (.cells #[.slice a1 n1 c1, .slice a2 n2 c2, .slice a3 n3 c3, .map (some b4), .map (some b5), .map (some b6)] 66)) (.slice a1 n1 c1) (.slice a2 n2 c2) (.slice a3 n3 c3) b4 b5 b6) :=
    { blk := heap_alloc_new _ _, fg := by show _ ≤ _; omega, fd := by show _ ≤ _; omega, fw := by show _ ≤ _; omega, fp := by show _ ≤ _; omega,
      od := ((((((o1.on k2).on k3).on k4).on k5).on k6).on k7).weak (fun k hk => by have hk' : wB.heap.size ≤ k := hk; show w.heap.size ≤ k; omega),
      ow := (((((o2.on k3).on k4).on k5).on k6).on k7).weak (fun k hk => Nat.le_trans s1 hk),
      op := ((((o3.on k4).on k5).on k6).on k7).weak (fun k hk => Nat.le_trans (Nat.le_trans s1 s2) hk),
      sd := ((o4.on k5).on k6).on k7, sw := (o5.on k6).on k7, sp := o6.on k7,
      n1 := by omega, n2 := by omega, n3 := by omega,
      nv := fun k hk e => by have := o1.lt k hk; have := o2.2 k e; simp at this; omega }
  have HB7 : Hid (Below w.heap.size w (w6.alloc (.cells #[.slice a1 n1 c1, .slice a2 n2 c2, .slice a3 n3 c3, .map (some b4), .map (some b5), .map (some b6)] 66))) := (HBA.out.trans (hS6.mono (by omega))).trans (k7.mono (by omega))
  clear o1 o2 o3 o4 o5 o6 k1 k2 k3 k4 k5 k6 k7 e4 e5 e6 s1 s2 s3 s4 s5 s6 t4 t5 t6 hsB hS1 hS2 hS3 hS4 hS5 hS6 HQ1 HQ2 HQ3 HQ4 HQ5 HQ6
  go_wp2
  go_ret
  refine ⟨_, rfl, ⟨⟨?_, fun x hx hn => absurd hx hn⟩, _, _, _, _, _, _, HX.out⟩, HB7.out⟩
  exact List.filter_eq_self.2 (fun x hx => isIn_iff.2 hx)
end Go.Proofs.Ytnnpdomfkedhpaa
