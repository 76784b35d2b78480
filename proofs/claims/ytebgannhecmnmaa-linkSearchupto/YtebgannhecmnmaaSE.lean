
-- Search.
import Derived.Test.YtebgannhecmnmaaGP
namespace Go.Proofs.Ytebgannhecmnmaa
open Go.ChangeShapes Go.WideShapes Go.ChangeAt Go.RowKit Go.MapKept
set_option linter.unusedVariables false
set_option maxRecDepth 100000
set_option maxHeartbeats 8000000 in
theorem searchL_c (ve va vn vf vg : Value) (L : Lb) (num : Int) (vd vw vp : Value) (s : Lk) (w : World) (M Pm K : Nat) (hV : LibAt (fun b => w.heap.size ≤ b) w ve va vn vf vg L) (hd : RowT w vd s.d) (hw : RowT w vw s.w) (hp : RowP w vp s.p)
    (n1 : s.d.length ≤ K) (n2 : s.w.length ≤ K) (hA : L.a.length < 4611686018427387904) (hlim : Lim K M Pm [(num, L)]) (hPm : L.a.length + s.p.length ≤ Pm) :
    Calls Try.prog 23 #[.agg #[ve, va, vn, vf, vg], .int .i64 num, .agg #[vd, vw, vp]] w fun e w' => ∃ a0 l0 c0 a1 l1 c1 a2 l2 c2, e = .returned (.agg #[.slice a0 l0 c0, .slice a1 l1 c1, .slice a2 l2 c2]) ∧ LkOwn w.heap.size w' (.slice a0 l0 c0) (.slice a1 l1 c1) (.slice a2 l2 c2) (srchN L num s) ∧ Below w.heap.size w w' := by
  obtain ⟨s0, t0, z0, s1, t1, z1, s2, t2, z2, s3, t3, z3, s4, t4, z4, e0, e1, e2, e3, e4⟩ := hV.slices
  subst e0 e1 e2 e3 e4
  obtain ⟨X, hX⟩ : ∃ X, X = Obj.cells #[.slice s0 t0 z0, .slice s1 t1 z1, .slice s2 t2 z2, .slice s3 t3 z3, .slice s4 t4 z4] 37 := ⟨_, rfl⟩
  obtain ⟨S, hS⟩ : ∃ S, S = Obj.cells #[vd, vw, vp] 26 := ⟨_, rfl⟩
  obtain ⟨Z, hZ⟩ : ∃ Z, Z = Obj.cells #[.slice none 0 0, .slice none 0 0, .slice none 0 0] 26 := ⟨_, rfl⟩
  obtain ⟨w1, hw1⟩ : ∃ w1, w1 = ((w.alloc X).alloc S).alloc Z := ⟨_, rfl⟩
  have hb1 : Below w.heap.size w w1 := by rw [hw1]; exact (((Below.refl _ w).alloc (Nat.le_refl _) X).alloc (by simp) S).alloc (by simp; omega) Z
  have hs1 : w1.heap.size = w.heap.size + 3 := by rw [hw1]; simp
  have hx0 : w1.heap[w.heap.size]? = some (.cells #[.slice s0 t0 z0, .slice s1 t1 z1, .slice s2 t2 z2, .slice s3 t3 z3, .slice s4 t4 z4] 37 (0, 0)) := by rw [hw1]; exact hupK (hupK (by rw [heap_alloc_new, hX]) S) Z
  have hq0 : w1.heap[w.heap.size + 1]? = some (.cells #[vd, vw, vp] 26 (0, 0)) := by rw [hw1]; exact hupK (by rw [heap_new2K, hS]) Z
  have hz1 : w1.heap[w.heap.size + 1 + 1]? = some (.cells #[.slice none 0 0, .slice none 0 0, .slice none 0 0] 26 (0, 0)) := by rw [hw1, heap_new3K, hZ]
  obtain ⟨x0, x1, x2, x3, x4⟩ := lib_cells hx0
  have y0 : w1.cell? ⟨w.heap.size + 1, 0, none⟩ = some vd := cell_rowK hq0 0 _ rfl
  have y1 : w1.cell? ⟨w.heap.size + 1, 1, none⟩ = some vw := cell_rowK hq0 1 _ rfl
  have y2 : w1.cell? ⟨w.heap.size + 1, 2, none⟩ = some vp := cell_rowK hq0 2 _ rfl
  have HBEG := hidK (begin_c vd vw vp s.d s.w s.p w1 (hd.on hb1) (hw.on hb1) (hp.on hb1) (by have := hlim.p; omega) (by have := hlim.p; omega) (by have := hlim.l; omega))
  have HX0 := hidK hx0
  have HCA : Hid (∀ w2, Below w1.heap.size w1 w2 → Calls Try.prog 43 #[.agg #[.slice s0 t0 z0, .slice s1 t1 z1, .slice s2 t2 z2, .slice s3 t3 z3, .slice s4 t4 z4], .int .i64 num] w2 fun e w' => ∃ b, e = .returned (.agg #[.slice s0 t0 z0, .slice s1 t1 z1, .slice s2 t2 z2, .slice s3 t3 z3, .slice s4 t4 z4, .int .i64 num, .map (some b)]) ∧ w2.heap.size ≤ b ∧ MpN w' b (plcF L.a 0) ∧ Below w2.heap.size w2 w') := fun w2 hb => catalogOf_c _ _ _ _ _ _ _ _ _ _ _ _ _ _ _ num L.a w2 ((hV.a.row.on hb1).on hb) hA
  have HV := hidK hV
  have HB1 := hidK hb1
  have HS1 := hidK hs1
  have HZ1 := hidK hz1
  have HLIM := hidK hlim
  have HPM := hidK hPm
  have HDW : Hid (s.d.length ≤ K ∧ s.w.length ≤ K) := ⟨n1, n2⟩
  clear hd hw hp hV hb1 hs1 hx0 hq0 hz1 hA hlim hPm n1 n2
  subst hX hS hZ
  go_enter Try.func23, Try.ntmps23
  go_upto_region 1 with fail
  rw [← hw1]
  clear hw1
  go_upto_region 2 with (go_at_call 33; refine HBEG.out.mono ?_; rintro e w2 ⟨g, rfl, q1, q2⟩; have HP2 := hidK q1; have HB2 := hidK q2; clear q1 q2)
  clear y0 y1 y2 HBEG x0 x1 x2 x3 x4
  have hx2 := hkeepK HB2.out HX0.out
  obtain ⟨x0, x1, x2, x3, x4⟩ := lib_cells hx2
  clear hx2
  have HSE : Hid (∀ w3 b, w2.heap.size ≤ b → MpN w3 b (plcF L.a 0) → Below w2.heap.size w2 w3 → Calls Try.prog 42 #[.pointer (some ⟨g, 0, none⟩), .agg #[.slice s0 t0 z0, .slice s1 t1 z1, .slice s2 t2 z2, .slice s3 t3 z3, .slice s4 t4 z4, .int .i64 num, .map (some b)]] w3 fun e w' => e = .returned (.tuple #[]) ∧ PgK (fun b => w1.heap.size ≤ b ∧ ¬ (w2.heap.size ≤ b ∧ b < w3.heap.size)) g K M (srchN L num s) w' ∧ Kp (fun b => w1.heap.size ≤ b ∧ ¬ (w2.heap.size ≤ b ∧ b < w3.heap.size)) w3 w') := fun w3 b hb hm hb3 => by
    have hs1 := HS1.out
    have hs2 := HB2.out.size
    have hs3 := hb3.size
    have hK3 : PgK (fun b => w1.heap.size ≤ b ∧ ¬ (w2.heap.size ≤ b ∧ b < w3.heap.size)) g K M s w3 := by
      obtain ⟨r0, vd0, vw0, vp0, bd0, bw0, bp0, hx⟩ := HP2.out
      have : PgAt (fun b => w1.heap.size ≤ b ∧ ¬ (w2.heap.size ≤ b ∧ b < w3.heap.size)) g s s.w w2 := ⟨r0, vd0, vw0, vp0, bd0, bw0, bp0, hx.into (fun b hb hf => ⟨hf, by omega⟩)⟩
      exact (pgK_of this HDW.out.2 HDW.out.1).on hb3
    have hbw3 : Below w.heap.size w w3 := (HB1.out.trans (HB2.out.mono (by omega))).trans (hb3.mono (by omega))
    have hV3 : LibAt (fun b => w1.heap.size ≤ b ∧ ¬ (w2.heap.size ≤ b ∧ b < w3.heap.size)) w3 (.slice s0 t0 z0) (.slice s1 t1 z1) (.slice s2 t2 z2) (.slice s3 t3 z3) (.slice s4 t4 z4) L := (HV.out.kp (Kp.of_below hbw3)).weak (fun b _ hh => by have := hh.1; show _ ≤ b; omega)
    have hj : muN [(num, L)] s + s.p.length ≤ Pm := by
      have g2 := mu_le [(num, L)] s
      have g3 : sizesN [(num, L)] = L.a.length := by simp [sizesN]
      have := HPM.out; omega
    exact search_c _ g K M s _ _ _ _ _ num b L w3 [(num, L)] (by simp) Pm HLIM.out hK3 (fun b hb => ⟨by omega, by omega⟩) ⟨hV3, hm, fun hf => hf.2 ⟨hb, hm.lt⟩⟩ hj
  go_upto_region 3 with (first
    | (go_at_call 43; refine (HCA.out _ HB2.out).mono ?_; rintro e w3 ⟨b, rfl, q0, q1, q2⟩; have HC3 := hidK (And.intro q0 q1); have HB3 := hidK q2; clear q0 q1 q2)
    | (go_at_call 42; refine (HSE.out _ _ HC3.out.1 HC3.out.2 HB3.out).mono ?_; rintro e w4 ⟨rfl, q1, q2⟩; have HP4 := hidK q1; have HK4 := hidK q2; clear q1 q2))
  clear x0 x1 x2 x3 x4
  have hs1 := HS1.out
  have hs2 := HB2.out.size
  have hs3 := HB3.out.size
  have hz4 : w4.heap[w.heap.size + 1 + 1]? = some (.cells #[.slice none 0 0, .slice none 0 0, .slice none 0 0] 26 (0, 0)) := by
    rw [HK4.out.block _ (by omega) (fun hf => by have := hf.1; omega), HB3.out.block _ (by omega), HB2.out.block _ (by omega)]; exact HZ1.out
  have HZ4 := hidK hz4
  have HBW4 : Hid (Below w.heap.size w w4) := by
    have h3 : Below w.heap.size w w3 := (HB1.out.trans (HB2.out.mono (by omega))).trans (HB3.out.mono (by omega))
    exact h3.trans (HK4.out.below (fun b hb => by have := hb.1; omega) h3.size)
  have HLK := hidK (link_k HP4.out (by
      have h1 := HLIM.out.p
      have g1 := (srch_goes (Ls := [(num, L)]) (L := L) (num := num) (by simp) s).mu
      have g2 := mu_le [(num, L)] s
      have g3 : sizesN [(num, L)] = L.a.length := by simp [sizesN]
      have g4 := HPM.out
      have h2 : M * (srchN L num s).p.length ≤ M * (Pm + 1) := Nat.mul_le_mul_left M (by omega)
      omega))
  clear hz4 hs2 hs3 HCA HSE
  go_wp2_with (first
    | (go_at_call 36; refine HLK.out.mono ?_; rintro e w5 ⟨u0, u1, u2, rfl, q2, q3, q4, q5, q6, q7⟩; obtain ⟨a0, c0, e0, _⟩ := q2.form; obtain ⟨a1, c1, e1, _⟩ := q3.form; obtain ⟨a2, c2, e2, _⟩ := q4.form; obtain ⟨l0, hl0⟩ : ∃ l, l = (srchN L num s).d.length := ⟨_, rfl⟩; obtain ⟨l1, hl1⟩ : ∃ l, l = (srchN L num s).w.length := ⟨_, rfl⟩; obtain ⟨l2, hl2⟩ : ∃ l, l = (srchN L num s).p.length := ⟨_, rfl⟩; rw [← hl0] at e0; rw [← hl1] at e1; rw [← hl2] at e2; subst e0 e1 e2; clear hl0 hl1 hl2; have HO := hidK (And.intro q2 (And.intro q3 (And.intro q4 (And.intro q5 q6)))); have HB5 := hidK q7; clear q2 q3 q4 q5 q6 q7)
    | (refine wpList_store_kz rfl rfl 26 _ _ rfl (w.heap.size + 1 + 1) 0 (.agg #[.slice a0 l0 c0, .slice a1 l1 c1, .slice a2 l2 c2]) rfl rfl 26 #[.slice none 0 0, .slice none 0 0, .slice none 0 0] #[.slice a0 l0 c0, .slice a1 l1 c1, .slice a2 l2 c2] (hkeepK HB5.out HZ4.out) sizeLink rfl rfl rfl ?_; intro W6 g6 q6; have HG6 := hidK g6; have HQ6 := hidK q6; clear g6 q6))
  refine bodyPost_ret (results_cell_row rfl _ _ (w.heap.size + 1 + 1) _ _ _ _ rfl HG6.out Try.underlying26 rfl sizeLink) rfl ?_
  obtain ⟨o0, o1, o2, o3, o4⟩ := HO.out
  have hw5 := HBW4.out.size
  have up : ∀ k, w.heap.size + 3 ≤ k → k < w5.heap.size → W6.heap[k]? = w5.heap[k]? := fun k h1 h2 => HQ6.out.block k (by omega) h2
  have o0' := o0.weak (G := fun b => w.heap.size + 3 ≤ b) (fun b hb => by have := hb.1; show _ ≤ b; omega)
  have hs4 : w.heap.size + 3 ≤ w4.heap.size := by have := HK4.out.size; have := HB3.out.size; have := HB2.out.size; omega
  have o1' := o1.weak (G := fun b => w.heap.size + 3 ≤ b) (fun b hb => by have hb' : w4.heap.size + 1 ≤ b := hb; show _ ≤ b; omega)
  have o2' := o2.weak (G := fun b => w.heap.size + 3 ≤ b) (fun b hb => by have := hb.1; show _ ≤ b; omega)
  refine ⟨_, _, _, _, _, _, _, _, _, rfl, ⟨(o0'.keep fun k hk => up k (o0'.2 k hk) (o0'.lt k hk)).weak (fun b hb => by have hb' : w.heap.size + 3 ≤ b := hb; show _ ≤ b; omega), (o1'.keep fun k hk => up k (o1'.2 k hk) (o1'.lt k hk)).weak (fun b hb => by have hb' : w.heap.size + 3 ≤ b := hb; show _ ≤ b; omega), (o2'.keep fun k hk => up k (o2'.2 k hk) (o2'.lt k hk)).weak (fun b hb => by have hb' : w.heap.size + 3 ≤ b := hb; show _ ≤ b; omega), fun k h1 h2 => by have := o3 k h1; have h3 : w4.heap.size + 1 ≤ k := o1.2 k h2; omega⟩, ?_⟩
  have hb5 := HBW4.out.trans (HB5.out.mono HBW4.out.size)
  exact hb5.trans (HQ6.out.below (by omega) hb5.size)
end Go.Proofs.Ytebgannhecmnmaa
