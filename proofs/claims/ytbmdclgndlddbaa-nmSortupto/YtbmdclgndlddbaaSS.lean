
-- NmSort, walked.
import Derived.Test.YtbmdclgndlddbaaRG
import Derived.Test.YtbmdclgndlddbaaRT
import Derived.Deep.RegionHeld3
namespace Go.Proofs.Ytbmdclgndlddbaa
open Go.ChangeShapes Go.WideShapes Go.ChangeAt Go.RowKit Go.Sort
set_option linter.unusedVariables false
set_option maxRecDepth 100000
def mk33 : Rw := ⟨⟨#[]⟩, 0, 0, 0, 0, 0, 0, 33⟩
def mk49 : Rw := ⟨⟨#[]⟩, 0, 0, 0, 0, 0, 0, 49⟩
theorem sizeRwT : (Try.prog.info? 31).map (·.size) = some 8 := by kernel_rfl
theorem mark_at {W : World} {g n cap : Nat} {L : List Rw} (h : RowG rwL W (.slice (some ⟨g, 0, none⟩) (n + 1) cap) (L ++ [mk33])) (hn : L.length = n) : W.cell? ⟨g, n * 8 + 7, none⟩ = some (.int .u8 33) := by
  obtain ⟨b, off, c, e, _, _, _, _, _, _, _, hc⟩ := h.rw (k := n) (x := mk33) (by rw [List.getElem?_append_right (by omega), hn, Nat.sub_self]; rfl)
  injection e with e _ _
  injection e with e
  injection e with e1 e2
  subst e1; subst e2
  rw [Nat.zero_add] at hc
  exact hc
theorem put_row {F : Nat → Prop} {W : World} {k g cap : Nat} {M : List Rw} {cur : Array Value} (x : Rw) (hF : F g) (hk : k < M.length) (h1 : M.length ≤ cap) (h2 : cap ≤ maxLen) (h5 : cur.size = cap * 8) (h6 : cur.toList.take (M.length * 8) = M.flatMap rwL) (hW : W.heap[g]? = some (.cells (putG cur (k * 8) (rwL x).toArray) 31 (0, 0))) : OwR F W (.slice (some ⟨g, 0, none⟩) M.length cap) (M.set k x) := by
  have h := ownG_put rwL 8 (B := 0) rwL_len x hk (Nat.zero_le _) h1 h2 h5 h6 rfl hW
  refine ⟨?_, fun q hq => by simp [Value.ownBlock] at hq; subst hq; exact hF⟩
  rw [List.length_set]; exact h
theorem put_at {F : Nat → Prop} {W : World} {a : Option Addr} {l c : Nat} {M : List Rw} (h : OwR F W (.slice a l c) M) {k : Nat} (hk : k < M.length) (x : Rw) : ∃ (g : Nat) (old new : Array Value), a = some ⟨g, 0, none⟩ ∧ F g ∧ W.heap[g]? = some (.cells old 31 (0, 0)) ∧ Nat.ble (k * 8 + 8) old.size = true ∧ putG old (k * 8) (rwL x).toArray = new ∧ (∀ W' : World, W'.heap[g]? = some (.cells new 31 (0, 0)) → OwR F W' (.slice a l c) (M.set k x)) := by
  obtain ⟨h1, hF⟩ := h
  rcases h1.2 with ⟨q, q'⟩ | ⟨g, cap, cur, q1, q2, q3, q4, q5, q6⟩
  · omega
  · injection q1 with e1 e2 e3
    subst e1 e2 e3
    obtain ⟨cur, p1, p2, p3, p4, p5, p6, p7⟩ := ownG_cur rwL 8 (by decide) rwL_len h1
    refine ⟨g, cur, _, rfl, hF g rfl, p1, ?_, rfl, fun W' hW => put_row x (hF g rfl) hk p3 p4 p5 p6 hW⟩
    rw [Nat.ble_eq, p5]
    have : (k + 1) * 8 ≤ c * 8 := Nat.mul_le_mul_right 8 (by omega)
    omega
theorem put_name {F : Nat → Prop} {W : World} {g n cap : Nat} {L : List Rw} (h : OwR F W (.slice (some ⟨g, 0, none⟩) (n + 1) cap) (L ++ [mk33])) (hn : n = L.length) (hp : 0 < n) (s : ByteArray) : ∃ (old new : Array Value) (L1 : List Rw), W.heap[g]? = some (.cells old 31 (0, 0)) ∧ Nat.ble (0 + 1) old.size = true ∧ putG old 0 #[.string s] = new ∧ L1.length = n ∧ (∀ W' : World, W'.heap[g]? = some (.cells new 31 (0, 0)) → RowG rwL W' (.slice (some ⟨g, 0, none⟩) n cap) L1) := by
  subst hn
  have h1 := h.1
  have hlen : (L ++ [mk33]).length = L.length + 1 := by simp
  rw [hlen] at h1
  obtain ⟨cur, p1, p2, p3, p4, p5, p6, p7⟩ := ownG_cur rwL 8 (by decide) rwL_len h1
  cases L with
  | nil => simp at hp
  | cons x Q =>
    refine ⟨cur, _, { x with nm := s } :: Q, p1, ?_, rfl, by simp, fun W' hW => ?_⟩
    · rw [Nat.ble_eq, p5]; have : (0 + 1) * 8 ≤ cap * 8 := Nat.mul_le_mul_right 8 (by omega); omega
    · have hs : cur.size ≠ 0 := by rw [p5]; have : (0 + 1) * 8 ≤ cap * 8 := Nat.mul_le_mul_right 8 (by omega); omega
      have q6 : (putG cur 0 #[Value.string s]).toList.take (((x :: Q).length + 1) * 8) = (({ x with nm := s } :: Q) ++ [mk33]).flatMap rwL := by
        unfold putG
        obtain ⟨l⟩ := cur
        cases l with
        | nil => simp at hs
        | cons y T =>
          obtain ⟨m, hm⟩ : ∃ m, ((x :: Q).length + 1) * 8 = m + 1 := ⟨((x :: Q).length + 1) * 8 - 1, by simp; omega⟩
          rw [hm] at p6 ⊢
          simp only [List.cons_append, List.flatMap_cons, List.take_succ_cons, rwL] at p6 ⊢
          injection p6 with _ p6
          simp [p6]
      have q7 := ownG_of rwL 8 rwL_len hW (B := 0) (Nat.zero_le _) p3 p4 (by rw [putG_size _ _ _ (by simp; omega), p5]) q6 (by simp)
      have q8 : OwR (fun _ => True) W' (.slice (some ⟨g, 0, none⟩) (({ x with nm := s } :: Q) ++ [mk33]).length cap) (({ x with nm := s } :: Q) ++ [mk33]) := by
        refine ⟨?_, fun _ _ => trivial⟩
        have e : (({ x with nm := s } :: Q) ++ [mk33]).length = (x :: Q).length + 1 := by simp
        rw [e]; exact q7
      exact rowG_front (OwnF.row elR q8)
def opCells (W : World) (b : Nat) (o : Op7) : Prop := W.cell? ⟨b, 0, none⟩ = some (.bool o.g) ∧ W.cell? ⟨b, 1, none⟩ = some (.bool o.u) ∧ W.cell? ⟨b, 2, none⟩ = some (.bool o.n) ∧ W.cell? ⟨b, 3, none⟩ = some (.bool o.p) ∧ W.cell? ⟨b, 4, none⟩ = some (.bool o.r) ∧ W.cell? ⟨b, 5, none⟩ = some (.bool o.a) ∧ W.cell? ⟨b, 6, none⟩ = some (.bool o.s)
set_option maxHeartbeats 32000000 in
theorem nmSort_w (v : Value) (L : List Rw) (o : Op7) (w : World) (h : RowG rwL w v L) (hn : L.length ≤ 1048576) :
    Calls Try.prog 4 #[v, opV o] w fun e w' => e = .returned (.bool true) ∧ Below w.heap.size w w' := by
  obtain ⟨a1, c1, q1, _, _⟩ := h.form
  obtain ⟨n, hnn⟩ : ∃ n, n = L.length := ⟨_, rfl⟩
  have HN := hidK hnn
  subst q1
  rw [← hnn] at hn h ⊢
  obtain ⟨Y, hY⟩ : ∃ Y, Y = opO o := ⟨_, rfl⟩
  obtain ⟨w1, hw1⟩ : ∃ w1, w1 = w.alloc Y := ⟨_, rfl⟩
  have hb1 : Below w.heap.size w w1 := by rw [hw1]; exact (Below.refl _ _).alloc (Nat.le_refl _) _
  have hs1 : w1.heap.size = w.heap.size + 1 := by rw [hw1]; simp
  have y0 : w1.heap[w.heap.size]? = some (opO o) := by rw [hw1, heap_alloc_new, hY]
  have HB1 := hidK hb1
  have HS1 := hidK hs1
  have HY := hidK y0
  have HV := hidK h
  have HQ : Hid ((sortL o L).length ≤ 1048576) := by show _ ≤ _; have := sortL_len o L; omega
  have HTW : Hid (∀ (W : World) (u : Value) (M : List Rw), RowG rwL W u M → M.length ≤ 1048576 → Calls Try.prog 6 #[u] W fun e w' => ∃ a l c, e = .returned (.slice a l c) ∧ OwR (fun b => W.heap.size ≤ b) w' (.slice a l c) M ∧ Below W.heap.size W w') := fun W u M h1 h2 => twin_c u M W h1 h2
  have HSO : Hid (∀ (W : World) (u : Value) (M : List Rw), RowG rwL W u M → M.length ≤ 1048576 → Calls Try.prog 5 #[u, opV o] W fun e w' => ∃ a l c, e = .returned (.slice a l c) ∧ OwR (fun b => W.heap.size ≤ b) w' (.slice a l c) (sortL o M) ∧ Below W.heap.size W w') := fun W u M h1 h2 => nmSort_c u M o W h1 h2
  have HRS : Hid (∀ (W : World) (u : Value) (M : List Rw), RowG rwL W u M → M.length ≤ 1048576 → Calls Try.prog 9 #[u, opV o] W fun e w' => ∃ u', e = .returned u' ∧ RowN (fun b => b < W.heap.size) rwL w' u' (sortL o M) ∧ Below W.heap.size W w') := fun W u M h1 h2 => rnmSort_c u M o W h1 h2
  have HSM : Hid (∀ (W : World) (u t : Value) (M : List Rw), RowG rwL W u M → RowG rwL W t M → M.length ≤ 1048576 → Calls Try.prog 10 #[u, t] W fun e w' => e = .returned (.bool true) ∧ Below W.heap.size W w') := fun W u t M h1 h2 h3 => sameR_c u t M W h1 h2 (by omega)
  unfold opO at hY
  unfold opV at HSO HRS ⊢
  clear h hb1 y0 hs1 hnn
  subst hY
  have HA1 := hidK (HTW.out w1 _ L (HV.out.on HB1.out) (by have := HN.out; omega))
  go_enter Try.func4, Try.ntmps4
  go_upto_region 1 with fail
  rw [← hw1]
  clear hw1
  go_upto_region 2 with (first
    | (go_at_call 6; refine HA1.out.mono ?_; rintro e w2 ⟨a2, l2, c2, rfl, ho, hb⟩; have HO2 := hidK ho; have HB2 := hidK hb; clear ho hb)
    | (refine wpG_one (F := fun b => w1.heap.size ≤ b) elR rfl (.tmp 16) (.tmp 18) rfl (.slice a2 l2 c2) L mk33 #[.string ⟨#[]⟩, .int .i64 0, .int .i64 0, .int .i64 0, .int .i64 0, .int .u64 0, .int .u64 0, .int .u8 33] rfl rfl rfl HO2.out (rwL_one _) (by have := HN.out; omega) (fun b hb => Nat.le_trans HB2.out.size hb) ?_; intro v3 w3 o3 k3 l3; have HO3 := hidK o3; have HK3 := hidK k3; clear o3 k3 l3))
  obtain ⟨g, cap, e3, hc1, hc2, htw⟩ := Tw.of HO3.out
  have HB3 : Hid (Below w1.heap.size w1 w3) := HB2.out.trans (HK3.out.below (fun b hb => HO2.out.2 b hb) HB2.out.size)
  have HG3 : Hid (OwR (fun b => w1.heap.size ≤ b) w3 (.slice (some ⟨g, 0, none⟩) (n + 1) cap) (L ++ [mk33])) := by
    have := HO3.out; rw [e3, ← HN.out] at this; exact this
  rw [← HN.out] at e3 hc1
  subst e3
  have HGR3 : Hid (RowG rwL w3 (.slice (some ⟨g, 0, none⟩) n cap) L) := by
    have h1 := OwnF.row elR HG3.out
    have h2 := rowG_front h1
    rw [← HN.out] at h2
    exact h2
  have i1 : (n : Int) ≤ (cap : Int) := by omega
  have i2 : (n : Int) < ((n : Int) + 1) := by omega
  have hc3 : cap ≤ 9223372036854775807 := by unfold maxLen at hc2; omega
  have HOP : Hid (∀ W, Below w1.heap.size w1 W → opCells W w.heap.size o) := fun W hb => op_cells (hkeepK hb HY.out)
  clear htw HO3 HK3 HO2 HA1
  go_upto_region 3 with fail
  have HSA3 : Hid (∀ W, Below w3.heap.size w3 W → Calls Try.prog 5 #[.slice (some ⟨g, 0, none⟩) n cap, .agg #[.bool o.g, .bool o.u, .bool o.n, .bool o.p, .bool o.r, .bool o.a, .bool o.s]] W fun e w' => ∃ a l c, e = .returned (.slice a l c) ∧ OwR (fun b => w3.heap.size ≤ b) w' (.slice a l c) (sortL o L) ∧ Below w3.heap.size w3 w') := fun W hb => (HSO.out W _ L (HGR3.out.on hb) (by have := HN.out; omega)).mono (by
    rintro e w' ⟨a, l, c, rfl, q1, q2⟩
    exact ⟨a, l, c, rfl, q1.weak (fun q hq => Nat.le_trans hb.size hq), bel3K hb q2⟩)
  have hv0 : ∀ W, Below w3.heap.size w3 W → W.cell? ⟨w.heap.size, 0, none⟩ = some (.bool o.g) := fun W hb => (HOP.out W (HB3.out.trans (hb.mono HB3.out.size))).1
  have hv1 : ∀ W, Below w3.heap.size w3 W → W.cell? ⟨w.heap.size, 1, none⟩ = some (.bool o.u) := fun W hb => (HOP.out W (HB3.out.trans (hb.mono HB3.out.size))).2.1
  have hv2 : ∀ W, Below w3.heap.size w3 W → W.cell? ⟨w.heap.size, 2, none⟩ = some (.bool o.n) := fun W hb => (HOP.out W (HB3.out.trans (hb.mono HB3.out.size))).2.2.1
  have hv3 : ∀ W, Below w3.heap.size w3 W → W.cell? ⟨w.heap.size, 3, none⟩ = some (.bool o.p) := fun W hb => (HOP.out W (HB3.out.trans (hb.mono HB3.out.size))).2.2.2.1
  have hv4 : ∀ W, Below w3.heap.size w3 W → W.cell? ⟨w.heap.size, 4, none⟩ = some (.bool o.r) := fun W hb => (HOP.out W (HB3.out.trans (hb.mono HB3.out.size))).2.2.2.2.1
  have hv5 : ∀ W, Below w3.heap.size w3 W → W.cell? ⟨w.heap.size, 5, none⟩ = some (.bool o.a) := fun W hb => (HOP.out W (HB3.out.trans (hb.mono HB3.out.size))).2.2.2.2.2.1
  have hv6 : ∀ W, Below w3.heap.size w3 W → W.cell? ⟨w.heap.size, 6, none⟩ = some (.bool o.s) := fun W hb => (HOP.out W (HB3.out.trans (hb.mono HB3.out.size))).2.2.2.2.2.2
  have hb0 : Below w3.heap.size w3 w3 := Below.refl _ _
  go_region_held3 (fun w' => Below w3.heap.size w3 w') (first | assumption | exact hb0.drew | exact hSw.drew) (first
    | (go_at_call 5; refine (HSA3.out _ (by assumption)).mono ?_; rintro e w4 ⟨a4, l4, c4, rfl, hq4, hS4⟩))
  have HS4 := hidK hS4
  have HL4 := hidK hq4
  clear hq4 hS4 hb0 hv0 hv1 hv2 hv3 hv4 hv5 hv6 HSA3
  have HB4 : Hid (Below w1.heap.size w1 w4) := HB3.out.trans (HS4.out.mono HB3.out.size)
  go_upto_region 4 with fail
  have HSA4 : Hid (∀ W, Below w4.heap.size w4 W → Calls Try.prog 5 #[.slice (some ⟨g, 0, none⟩) n cap, .agg #[.bool o.g, .bool o.u, .bool o.n, .bool o.p, .bool o.r, .bool o.a, .bool o.s]] W fun e w' => ∃ a l c, e = .returned (.slice a l c) ∧ OwR (fun b => w4.heap.size ≤ b) w' (.slice a l c) (sortL o L) ∧ Below w4.heap.size w4 w') := fun W hb => (HSO.out W _ L ((HGR3.out.on HS4.out).on hb) (by have := HN.out; omega)).mono (by
    rintro e w' ⟨a, l, c, rfl, q1, q2⟩
    exact ⟨a, l, c, rfl, q1.weak (fun q hq => Nat.le_trans hb.size hq), bel3K hb q2⟩)
  have hv0 : ∀ W, Below w4.heap.size w4 W → W.cell? ⟨w.heap.size, 0, none⟩ = some (.bool o.g) := fun W hb => (HOP.out W (HB4.out.trans (hb.mono HB4.out.size))).1
  have hv1 : ∀ W, Below w4.heap.size w4 W → W.cell? ⟨w.heap.size, 1, none⟩ = some (.bool o.u) := fun W hb => (HOP.out W (HB4.out.trans (hb.mono HB4.out.size))).2.1
  have hv2 : ∀ W, Below w4.heap.size w4 W → W.cell? ⟨w.heap.size, 2, none⟩ = some (.bool o.n) := fun W hb => (HOP.out W (HB4.out.trans (hb.mono HB4.out.size))).2.2.1
  have hv3 : ∀ W, Below w4.heap.size w4 W → W.cell? ⟨w.heap.size, 3, none⟩ = some (.bool o.p) := fun W hb => (HOP.out W (HB4.out.trans (hb.mono HB4.out.size))).2.2.2.1
  have hv4 : ∀ W, Below w4.heap.size w4 W → W.cell? ⟨w.heap.size, 4, none⟩ = some (.bool o.r) := fun W hb => (HOP.out W (HB4.out.trans (hb.mono HB4.out.size))).2.2.2.2.1
  have hv5 : ∀ W, Below w4.heap.size w4 W → W.cell? ⟨w.heap.size, 5, none⟩ = some (.bool o.a) := fun W hb => (HOP.out W (HB4.out.trans (hb.mono HB4.out.size))).2.2.2.2.2.1
  have hv6 : ∀ W, Below w4.heap.size w4 W → W.cell? ⟨w.heap.size, 6, none⟩ = some (.bool o.s) := fun W hb => (HOP.out W (HB4.out.trans (hb.mono HB4.out.size))).2.2.2.2.2.2
  have hb0 : Below w4.heap.size w4 w4 := Below.refl _ _
  go_region_held3 (fun w' => Below w4.heap.size w4 w') (first | assumption | exact hb0.drew | exact hSw.drew) (first
    | (go_at_call 5; refine (HSA4.out _ (by assumption)).mono ?_; rintro e w5 ⟨a5, l5, c5, rfl, hq5, hS5⟩))
  have HS5 := hidK hS5
  have HL5 := hidK hq5
  clear hq5 hS5 hb0 hv0 hv1 hv2 hv3 hv4 hv5 hv6 HSA4
  have HB5 : Hid (Below w1.heap.size w1 w5) := HB4.out.trans (HS5.out.mono HB4.out.size)
  have HTB5 : Hid (∀ W, Below w5.heap.size w5 W → Calls Try.prog 6 #[.slice a1 n c1] W fun e w' => ∃ a l c, e = .returned (.slice a l c) ∧ RowG rwL w' (.slice a l c) L ∧ Below w5.heap.size w5 w') := fun W hb => (HTW.out W _ L (HV.out.on (HB1.out.trans ((HB5.out.trans (hb.mono HB5.out.size)).mono HB1.out.size))) (by have := HN.out; omega)).mono (by
    rintro e w' ⟨a, l, c, rfl, q1, q2⟩
    exact ⟨a, l, c, rfl, q1.row elR, bel3K hb q2⟩)
  have HRB5 : Hid (∀ (W : World) (u : Value), Below w5.heap.size w5 W → RowG rwL W u L → Calls Try.prog 9 #[u, .agg #[.bool o.g, .bool o.u, .bool o.n, .bool o.p, .bool o.r, .bool o.a, .bool o.s]] W fun e w' => ∃ u', e = .returned u' ∧ RowN (fun b => b < w5.heap.size) rwL w' u' (sortL o L) ∧ Below w5.heap.size w5 w') := fun W u hb h1 => (HRS.out W u L h1 (by have := HN.out; omega)).mono (by
    rintro e w' ⟨u', rfl, q1, q2⟩
    exact ⟨u', rfl, q1.weak (fun q _ h2 => Nat.lt_of_lt_of_le h2 hb.size) (by decide) rwL_len, bel3K hb q2⟩)
  have hv0 : ∀ W, Below w5.heap.size w5 W → W.cell? ⟨w.heap.size, 0, none⟩ = some (.bool o.g) := fun W hb => (HOP.out W (HB5.out.trans (hb.mono HB5.out.size))).1
  have hv1 : ∀ W, Below w5.heap.size w5 W → W.cell? ⟨w.heap.size, 1, none⟩ = some (.bool o.u) := fun W hb => (HOP.out W (HB5.out.trans (hb.mono HB5.out.size))).2.1
  have hv2 : ∀ W, Below w5.heap.size w5 W → W.cell? ⟨w.heap.size, 2, none⟩ = some (.bool o.n) := fun W hb => (HOP.out W (HB5.out.trans (hb.mono HB5.out.size))).2.2.1
  have hv3 : ∀ W, Below w5.heap.size w5 W → W.cell? ⟨w.heap.size, 3, none⟩ = some (.bool o.p) := fun W hb => (HOP.out W (HB5.out.trans (hb.mono HB5.out.size))).2.2.2.1
  have hv4 : ∀ W, Below w5.heap.size w5 W → W.cell? ⟨w.heap.size, 4, none⟩ = some (.bool o.r) := fun W hb => (HOP.out W (HB5.out.trans (hb.mono HB5.out.size))).2.2.2.2.1
  have hv5 : ∀ W, Below w5.heap.size w5 W → W.cell? ⟨w.heap.size, 5, none⟩ = some (.bool o.a) := fun W hb => (HOP.out W (HB5.out.trans (hb.mono HB5.out.size))).2.2.2.2.2.1
  have hv6 : ∀ W, Below w5.heap.size w5 W → W.cell? ⟨w.heap.size, 6, none⟩ = some (.bool o.s) := fun W hb => (HOP.out W (HB5.out.trans (hb.mono HB5.out.size))).2.2.2.2.2.2
  have hb0 : Below w5.heap.size w5 w5 := Below.refl _ _
  go_upto_region 5 with fail
  go_region_held3 (fun w' => Below w5.heap.size w5 w') (first | assumption | exact hb0.drew | exact hSw.drew) (first
    | (go_at_call 6; refine (HTB5.out _ (by assumption)).mono ?_; rintro e w6 ⟨at7, lt7, ct7, rfl, hqt, hSt⟩)
    | (go_at_call 9; refine (HRB5.out _ _ (by assumption) (by first | exact hqt | exact hqt.on (Below.refl _ _).drew)).mono ?_; rintro e w7 ⟨u7, rfl, hq7, hS7⟩))
  have HS7 := hidK hS7
  have HM7 := hidK hq7
  clear hq7 hS7 hqt hSt hb0 hv0 hv1 hv2 hv3 hv4 hv5 hv6 HTB5 HRB5
  obtain ⟨a7, c7, e7, _, _⟩ := HM7.out.row.form
  obtain ⟨m, hm⟩ : ∃ m, m = (sortL o L).length := ⟨_, rfl⟩
  have HM := hidK hm
  rw [← hm] at e7
  subst e7
  have hmn : m ≤ 1048576 := by have := HQ.out; omega
  have hl4 : l4 = m := by
    obtain ⟨_, _, e, _⟩ := HL4.out.form
    injection e with _ e2 _
    rw [e2, hm]
  subst hl4
  -- what stays as long as only l's block and new ones turn (X); and given's (Z)
  obtain ⟨X, hX⟩ : ∃ X : Nat → Prop, X = fun q => (Value.slice a4 l4 c4).ownBlock = some q ∨ w7.heap.size ≤ q := ⟨_, rfl⟩
  obtain ⟨Z, hZ⟩ : ∃ Z : Nat → Prop, Z = fun q => X q ∨ q = g := ⟨_, rfl⟩
  have HB7 : Hid (Below w1.heap.size w1 w7) := HB5.out.trans (HS7.out.mono HB5.out.size)
  have hlb : ∀ q, (Value.slice a4 l4 c4).ownBlock = some q → w3.heap.size ≤ q ∧ q < w4.heap.size := fun q hq => ⟨HL4.out.2 q hq, HL4.out.lt q hq⟩
  have hs45 : w4.heap.size ≤ w5.heap.size := HS5.out.size
  have hs57 : w5.heap.size ≤ w7.heap.size := HS7.out.size
  have hs13 : w1.heap.size ≤ w3.heap.size := HB3.out.size
  have hs34 : w3.heap.size ≤ w4.heap.size := HS4.out.size
  have hg1 : w1.heap.size ≤ g := HG3.out.2 g rfl
  have hg3 : g < w3.heap.size := HG3.out.lt g rfl
  have HXW : Hid (∀ q, X q → w3.heap.size ≤ q) := fun q hq => by
    rw [hX] at hq
    rcases hq with h1 | h1
    · exact (hlb q h1).1
    · omega
  have HXN : Hid (∀ q, w7.heap.size ≤ q → X q) := fun q hq => by rw [hX]; exact .inr hq
  have HXL : Hid (∀ q, (Value.slice a4 l4 c4).ownBlock = some q → X q) := fun q hq => by rw [hX]; exact .inl hq
  have HZX : Hid (∀ q, X q → Z q) := fun q hq => by rw [hZ]; exact .inl hq
  have HZG : Hid (Z g) := by rw [hZ]; exact .inr rfl
  have hZ1 : ∀ q, Z q → w1.heap.size ≤ q := fun q hq => by
    rw [hZ] at hq
    rcases hq with h1 | h1
    · have := HXW.out q h1; omega
    · omega
  have HZN : Hid (∀ q, w4.heap.size ≤ q → q < w7.heap.size → ¬ Z q) := fun q h1 h2 hx => by
    rw [hZ] at hx
    rcases hx with h4 | h4
    · rw [hX] at h4
      rcases h4 with h4 | h4
      · have := (hlb q h4).2; omega
      · omega
    · omega
  have HKX : Hid (∀ W, Kp Z w7 W → RowG rwL W (.slice a5 l5 c5) (sortL o L)) := fun W hk => by
    have h1 := HL5.out.on HS7.out
    exact OwnF.row elR (h1.kp hk (fun q hq => HZN.out q (h1.2 q hq) (h1.lt q hq)))
  have HMX : Hid (∀ W, Kp Z w7 W → RowG rwL W (.slice a7 l4 c7) (sortL o L)) := fun W hk => by
    refine RowN.row ((HM7.out.weak (G := Z) (fun q h1 h2 => ?_) (by decide) rwL_len).kp hk)
    show q < w5.heap.size
    by_cases h5 : q < w5.heap.size
    · exact h5
    · exact absurd h2 (HZN.out q (by omega) h1)
  have HGX : Hid (∀ W, Kp X w7 W → OwR (fun b => w1.heap.size ≤ b) W (.slice (some ⟨g, 0, none⟩) (n + 1) cap) (L ++ [mk33]) ∧ RowG rwL W (.slice (some ⟨g, 0, none⟩) n cap) L) := fun W hk => by
    have h0 : Below w3.heap.size w3 W := ((HS4.out.trans (HS5.out.mono HS4.out.size)).trans (HS7.out.mono (by omega))).trans (hk.below HXW.out (by omega))
    exact ⟨HG3.out.on h0, HGR3.out.on h0⟩
  have HVX : Hid (∀ W, Kp Z w7 W → RowG rwL W (.slice a1 n c1) L ∧ Below w1.heap.size w1 W) := fun W hk => by
    have h0 : Below w1.heap.size w1 W := HB7.out.trans (hk.below hZ1 (by omega))
    exact ⟨HV.out.on (HB1.out.trans (h0.mono HB1.out.size)), h0⟩
  have HLX : Hid (∀ W, Below w7.heap.size w7 W → OwR X W (.slice a4 l4 c4) (sortL o L)) := fun W hb => by
    have h1 := ((HL4.out.on HS5.out).on HS7.out).on hb
    exact ⟨h1.1, HXL.out⟩
  have HKZ : Hid (∀ W, Kp X w7 W → Kp Z w7 W) := fun W hk => hk.weak HZX.out
  have hr7 : Below w7.heap.size w7 w7 := Below.refl _ _
  have hk7 : Kp X w7 w7 := Kp.refl _ _
  have HA6 := hidK (HSM.out w7 (.slice a4 l4 c4) (.slice a7 l4 c7) _ ((HLX.out w7 hr7).row elR) (HMX.out w7 (HKZ.out _ hk7)) HQ.out)
  have HNL : Hid (L.length ≤ 1048576) := by show _ ≤ _; have := HN.out; omega
  have HMK : Hid (∀ W, Kp X w7 W → W.cell? ⟨g, n * 8 + 7, none⟩ = some (.int .u8 33)) := fun W hk => mark_at ((HGX.out W hk).1.row elR) HN.out.symm
  clear hm hlb hX hk7 hZ hr7 hs45 hs57 hs13 hs34 hg1 hg3 hZ1
  go_upto_region 8 with (first
    | (go_at_call 10; refine HA6.out.mono ?_; rintro e w8 ⟨rfl, hb8⟩; have HB8 : Hid (Below w7.heap.size w7 w8) := hb8; clear hb8 HA6; have HA6b := hidK (HSM.out w8 (.slice a5 l5 c5) (.slice a7 l4 c7) _ (HKX.out _ (Kp.of_below HB8.out)) (HMX.out _ (Kp.of_below HB8.out)) HQ.out))
    | (go_at_call 10; refine HA6b.out.mono ?_; rintro e w9 ⟨rfl, hb9⟩; have HB9 : Hid (Below w7.heap.size w7 w9) := HB8.out.trans (hb9.mono HB8.out.size); clear hb9 HA6b HB8; have HA6c := hidK (HSM.out w9 (.slice (some ⟨g, 0, none⟩) n cap) (.slice a1 n c1) L (HGX.out _ (Kp.of_below HB9.out)).2 (HVX.out _ (Kp.of_below HB9.out)).1 HNL.out))
    | (go_at_call 10; refine HA6c.out.mono ?_; rintro e w10 ⟨rfl, hb10⟩; have HB10 : Hid (Below w7.heap.size w7 w10) := HB9.out.trans (hb10.mono HB9.out.size); clear hb10 HA6c HB9; have f0 := HMK.out _ (Kp.of_below HB10.out)))
  clear f0
  have HL10 := hidK (HLX.out w10 HB10.out)
  have HK10 : Hid (Kp X w7 w10) := Kp.of_below HB10.out
  have HQL : Hid ((sortL o L).length = l4) := by
    obtain ⟨_, _, e, _⟩ := HL10.out.form
    injection e with _ e2 _
    exact e2.symm
  go_wp2
  go_loopw [10] (fun i wx => ∃ (k : Nat) (M : List Rw), i = .int .i64 k ∧ k ≤ l4 ∧ M.length = l4 ∧ OwR X wx (.slice a4 l4 c4) M ∧ Kp X w7 wx) (fun i _ => l4 - (intOf i).toNat)
  case atStart => exact ⟨0, sortL o L, rfl, Nat.zero_le _, HQL.out, HL10.out, HK10.out⟩
  case round =>
    obtain ⟨k, M, rfl, hkn, hM, hO, hK⟩ := hrel
    have HM' := hidK hM
    have HO := hidK hO
    have HK := hidK hK
    clear hO hK hM
    by_cases hk : k < l4
    · have kI : (k : Int) < (l4 : Int) := by omega
      have k0 : (0 : Int) ≤ (k : Int) := by omega
      have kw : IntKind.i64.wrap ((k : Int) + 1) = (k : Int) + 1 := by rw [IntKind.wrap_i64]; omega
      obtain ⟨gl, old, new, ea, hgl, hold, hble, hnew, hall⟩ := put_at HO.out (k := k) (by have := HM'.out; omega) mk49
      subst ea
      have HALL := hidK hall
      have HGL := hidK hgl
      have HOLD := hidK hold
      have HBLE := hidK hble
      have HNEW := hidK hnew
      clear hgl hold hble hnew hall
      go_wp2_with (refine wpList_store_row_G rfl rfl 31 (.tmp 71) (.tmp 70) rfl gl (k * 8) (.agg #[.string ⟨#[]⟩, .int .i64 0, .int .i64 0, .int .i64 0, .int .i64 0, .int .u64 0, .int .u64 0, .int .u8 49]) rfl rfl 31 old new HOLD.out sizeRwT HBLE.out rfl HNEW.out ?_; intro W3 hW3 hG3; have HO3 := hidK (HALL.out W3 hW3); have HK3 : Hid (Kp X w7 W3) := HK.out.trans (Kp.grown hG3 (fun q hq => by injection hq with hq; subst hq; exact HGL.out)); clear hW3 hG3)
      go_roundw
      case rel => exact ⟨k + 1, M.set k mk49, by go_num, by omega, by rw [List.length_set]; exact HM'.out, HO3.out, HK3.out⟩
      case measure => simp [intOf]; omega
    · obtain rfl : k = l4 := by omega
      have HA12 := hidK (HSM.out wr (.slice a5 l5 c5) (.slice a7 k c7) _ (HKX.out _ (HKZ.out _ HK.out)) (HMX.out _ (HKZ.out _ HK.out)) HQ.out)
      go_upto_region 14 with (go_at_call 10; refine HA12.out.mono ?_; rintro e w12 ⟨rfl, hb12⟩; have HO12 := hidK (HO.out.on hb12); have HK12 : Hid (Kp X w7 w12) := HK.out.trans (Kp.of_below hb12); clear hb12 HA12)
      go_wp2
      go_loopw [11, 12] (fun s i wx => ∃ (j : Nat) (a : Option Addr) (l c : Nat) (M : List Rw), i = .int .i64 j ∧ j ≤ 64 ∧ s = .slice a l c ∧ l = k + j ∧ M.length = l ∧ OwR X wx (.slice a l c) M ∧ Kp X w7 wx) (fun _ i _ => 64 - (intOf i).toNat)
      case atStart => exact ⟨0, _, _, _, M, rfl, by omega, rfl, rfl, HM'.out, HO12.out, HK12.out⟩
      case round =>
        obtain ⟨j, am, lm, cm, M2, rfl, hj, rfl, hlm, hM2, hO, hK⟩ := hrel
        have HM2 := hidK hM2
        have HO2 := hidK hO
        have HK2 := hidK hK
        clear hO hK hM2
        by_cases hj2 : j < 64
        · have jI : (j : Int) < 64 := by omega
          have jw : IntKind.i64.wrap ((j : Int) + 1) = (j : Int) + 1 := by rw [IntKind.wrap_i64]; omega
          go_wp2_with (refine wpG_one (F := X) elR rfl (.tmp 81) (.tmp 83) rfl (.slice am lm cm) M2 mk49 #[.string ⟨#[]⟩, .int .i64 0, .int .i64 0, .int .i64 0, .int .i64 0, .int .u64 0, .int .u64 0, .int .u8 49] rfl rfl rfl HO2.out (rwL_one _) (by have := HM2.out; omega) (fun b hb => HXN.out b (Nat.le_trans HK2.out.size hb)) ?_; intro v3 w3' o3 k3 l3; have HO3 := hidK o3; have HK3 : Hid (Kp X w7 w3') := HK2.out.trans (k3.weak (fun q hq => HO2.out.2 q hq)); obtain ⟨a3, p3, e3, _⟩ := o3.form; obtain ⟨m3, hm3⟩ : ∃ m, m = (M2 ++ [mk49]).length := ⟨_, rfl⟩; rw [← hm3] at e3; have HM3 := hidK hm3; clear hm3 o3 k3 l3; subst e3)
          go_roundw
          case rel => exact ⟨j + 1, _, _, _, _, by go_num, by omega, rfl, by have := HM3.out; rw [List.length_append, HM2.out] at this; simp at this; omega, HM3.out.symm, HO3.out, HK3.out⟩
          case measure => simp [intOf]; omega
        · obtain rfl : j = 64 := by omega
          subst hlm
          have HA19 := hidK (HSM.out wr (.slice a5 l5 c5) (.slice a7 k c7) _ (HKX.out _ (HKZ.out _ HK2.out)) (HMX.out _ (HKZ.out _ HK2.out)) HQ.out)
          clear HO12 HK12 HO HK HM'
          have kw : IntKind.i64.wrap ((k : Int) + 64) = ((k + 64 : Nat) : Int) := by rw [IntKind.wrap_i64]; omega
          go_upto_region 21 with (first
            | (go_at_call 10; refine HA19.out.mono ?_; rintro e w19 ⟨rfl, hb19⟩; have HK19 : Hid (Kp X w7 w19) := HK2.out.trans (Kp.of_below hb19); clear hb19 HA19; have HA19b := hidK (HSM.out w19 (.slice (some ⟨g, 0, none⟩) n cap) (.slice a1 n c1) L (HGX.out _ HK19.out).2 (HVX.out _ (HKZ.out _ HK19.out)).1 HNL.out))
            | (go_at_call 10; refine HA19b.out.mono ?_; rintro e w20 ⟨rfl, hb20⟩; have HK20 : Hid (Kp X w7 w20) := HK19.out.trans (Kp.of_below hb20); clear hb20 HA19b; have f0 := HMK.out _ HK20.out))
          clear f0 HO2 HM2 HK19
          have HR : Hid (RowG rwL w20 (.slice (some ⟨g, 0, none⟩) n cap) L) := (HGX.out _ HK20.out).2
          have HL1 : Hid (L.length = n) := HN.out.symm
          by_cases hn0 : n = 0
          case' pos => (have i0 : ¬ ((0 : Int) < (n : Int)) := by omega)
          case' pos => go_upto_region 23 with fail
          case' pos => (obtain ⟨L1, hL1⟩ : ∃ L1, L1 = L := ⟨_, rfl⟩)
          case' pos => (obtain ⟨w22, hw22⟩ : ∃ W, W = w20 := ⟨_, rfl⟩)
          case' pos => (have HK22 : Hid (Kp Z w7 w22) := by rw [hw22]; exact HKZ.out _ HK20.out)
          case' pos => (have HR22 : Hid (RowG rwL w22 (.slice (some ⟨g, 0, none⟩) n cap) L1) := by rw [hw22, hL1]; exact HR.out)
          case' pos => (have HL22 : Hid (L1.length = n) := by rw [hL1]; exact HL1.out)
          case' pos => (rw [← hw22]; clear hL1 hw22 hn0 i0)
          case' neg => (have i0 : (0 : Int) < (n : Int) := by omega)
          case' neg => (obtain ⟨old, new, L1, q1, q2, q3, q4, q5⟩ := put_name (HGX.out _ HK20.out).1 HN.out (by omega) ⟨#[97, 110, 111, 116, 104, 101, 114]⟩)
          case' neg => (have Q1 := hidK q1; have Q2 := hidK q2; have Q3 := hidK q3; have HL22 : Hid (L1.length = n) := q4; have Q5 := hidK q5; clear q1 q2 q3 q4 q5)
          case' neg => go_upto_region 23 with (refine wpList_store_row_G rfl rfl 9 (.tmp 118) (.const (.string ⟨#[97, 110, 111, 116, 104, 101, 114]⟩)) rfl g 0 (.string ⟨#[97, 110, 111, 116, 104, 101, 114]⟩) rfl rfl 31 old new Q1.out (by kernel_rfl) Q2.out rfl Q3.out ?_; intro w22 hW3 hG3; have HR22 := hidK (Q5.out w22 hW3); have HK22 : Hid (Kp Z w7 w22) := (HKZ.out _ HK20.out).trans (Kp.grown hG3 (fun q hq => by injection hq with hq; subst hq; exact HZG.out)); clear hW3 hG3)
          case' neg => clear hn0 i0 Q1 Q2 Q3 Q5
          all_goals clear HR HK20
          all_goals (have HB22 : Hid (Below w1.heap.size w1 w22) := (HVX.out w22 HK22.out).2)
          all_goals (have HLn : Hid (L1.length ≤ 1048576) := by show _ ≤ _; have := HL22.out; omega)
          all_goals (have HSA : ∀ W, Below w22.heap.size w22 W → Calls Try.prog 5 #[.slice (some ⟨g, 0, none⟩) n cap, .agg #[.bool o.g, .bool o.u, .bool o.n, .bool o.p, .bool o.r, .bool o.a, .bool o.s]] W fun e w' => ∃ a l c, e = .returned (.slice a l c) ∧ OwR (fun b => w22.heap.size ≤ b) w' (.slice a l c) (sortL o L1) ∧ Below w22.heap.size w22 w' := fun W hb => (HSO.out W _ L1 (HR22.out.on hb) HLn.out).mono (by
              rintro e w' ⟨a, l, c, rfl, q1, q2⟩
              exact ⟨a, l, c, rfl, q1.weak (fun q hq => Nat.le_trans hb.size hq), bel3K hb q2⟩))
          all_goals (have hv0 : ∀ W, Below w22.heap.size w22 W → W.cell? ⟨w.heap.size, 0, none⟩ = some (.bool o.g) := fun W hb => (HOP.out W (HB22.out.trans (hb.mono HB22.out.size))).1)
          all_goals (have hv1 : ∀ W, Below w22.heap.size w22 W → W.cell? ⟨w.heap.size, 1, none⟩ = some (.bool o.u) := fun W hb => (HOP.out W (HB22.out.trans (hb.mono HB22.out.size))).2.1)
          all_goals (have hv2 : ∀ W, Below w22.heap.size w22 W → W.cell? ⟨w.heap.size, 2, none⟩ = some (.bool o.n) := fun W hb => (HOP.out W (HB22.out.trans (hb.mono HB22.out.size))).2.2.1)
          all_goals (have hv3 : ∀ W, Below w22.heap.size w22 W → W.cell? ⟨w.heap.size, 3, none⟩ = some (.bool o.p) := fun W hb => (HOP.out W (HB22.out.trans (hb.mono HB22.out.size))).2.2.2.1)
          all_goals (have hv4 : ∀ W, Below w22.heap.size w22 W → W.cell? ⟨w.heap.size, 4, none⟩ = some (.bool o.r) := fun W hb => (HOP.out W (HB22.out.trans (hb.mono HB22.out.size))).2.2.2.2.1)
          all_goals (have hv5 : ∀ W, Below w22.heap.size w22 W → W.cell? ⟨w.heap.size, 5, none⟩ = some (.bool o.a) := fun W hb => (HOP.out W (HB22.out.trans (hb.mono HB22.out.size))).2.2.2.2.2.1)
          all_goals (have hv6 : ∀ W, Below w22.heap.size w22 W → W.cell? ⟨w.heap.size, 6, none⟩ = some (.bool o.s) := fun W hb => (HOP.out W (HB22.out.trans (hb.mono HB22.out.size))).2.2.2.2.2.2)
          all_goals (have hb0 : Below w22.heap.size w22 w22 := Below.refl _ _)
          all_goals (go_region_held3 (fun w' => Below w22.heap.size w22 w') (first | assumption | exact hb0.drew | exact hSw.drew) (first
              | (go_at_call 5; refine (HSA _ (by assumption)).mono ?_; rintro e w23 ⟨a23, l23, c23, rfl, hq23, hS23⟩)))
          all_goals (have HS23 := hidK hS23)
          all_goals (have HL23 := hidK hq23)
          all_goals (clear hq23 hS23 hb0 hv0 hv1 hv2 hv3 hv4 hv5 hv6 HSA)
          all_goals (have HB23 : Hid (Below w1.heap.size w1 w23) := HB22.out.trans (HS23.out.mono HB22.out.size))
          all_goals (go_upto_region 24 with fail)
          all_goals (have HTB : Hid (∀ W, Below w23.heap.size w23 W → Calls Try.prog 6 #[.slice (some ⟨g, 0, none⟩) n cap] W fun e w' => ∃ a l c, e = .returned (.slice a l c) ∧ RowG rwL w' (.slice a l c) L1 ∧ Below w23.heap.size w23 w') := fun W hb => (HTW.out W _ L1 ((HR22.out.on HS23.out).on hb) HLn.out).mono (by
              rintro e w' ⟨a, l, c, rfl, q1, q2⟩
              exact ⟨a, l, c, rfl, q1.row elR, bel3K hb q2⟩))
          all_goals (have HRB : Hid (∀ (W : World) (u : Value), Below w23.heap.size w23 W → RowG rwL W u L1 → Calls Try.prog 9 #[u, .agg #[.bool o.g, .bool o.u, .bool o.n, .bool o.p, .bool o.r, .bool o.a, .bool o.s]] W fun e w' => ∃ u', e = .returned u' ∧ RowG rwL w' u' (sortL o L1) ∧ Below w23.heap.size w23 w') := fun W u hb h1 => (HRS.out W u L1 h1 HLn.out).mono (by
              rintro e w' ⟨u', rfl, q1, q2⟩
              exact ⟨u', rfl, q1.row, bel3K hb q2⟩))
          all_goals (have hv0 : ∀ W, Below w23.heap.size w23 W → W.cell? ⟨w.heap.size, 0, none⟩ = some (.bool o.g) := fun W hb => (HOP.out W (HB23.out.trans (hb.mono HB23.out.size))).1)
          all_goals (have hv1 : ∀ W, Below w23.heap.size w23 W → W.cell? ⟨w.heap.size, 1, none⟩ = some (.bool o.u) := fun W hb => (HOP.out W (HB23.out.trans (hb.mono HB23.out.size))).2.1)
          all_goals (have hv2 : ∀ W, Below w23.heap.size w23 W → W.cell? ⟨w.heap.size, 2, none⟩ = some (.bool o.n) := fun W hb => (HOP.out W (HB23.out.trans (hb.mono HB23.out.size))).2.2.1)
          all_goals (have hv3 : ∀ W, Below w23.heap.size w23 W → W.cell? ⟨w.heap.size, 3, none⟩ = some (.bool o.p) := fun W hb => (HOP.out W (HB23.out.trans (hb.mono HB23.out.size))).2.2.2.1)
          all_goals (have hv4 : ∀ W, Below w23.heap.size w23 W → W.cell? ⟨w.heap.size, 4, none⟩ = some (.bool o.r) := fun W hb => (HOP.out W (HB23.out.trans (hb.mono HB23.out.size))).2.2.2.2.1)
          all_goals (have hv5 : ∀ W, Below w23.heap.size w23 W → W.cell? ⟨w.heap.size, 5, none⟩ = some (.bool o.a) := fun W hb => (HOP.out W (HB23.out.trans (hb.mono HB23.out.size))).2.2.2.2.2.1)
          all_goals (have hv6 : ∀ W, Below w23.heap.size w23 W → W.cell? ⟨w.heap.size, 6, none⟩ = some (.bool o.s) := fun W hb => (HOP.out W (HB23.out.trans (hb.mono HB23.out.size))).2.2.2.2.2.2)
          all_goals (have hb0 : Below w23.heap.size w23 w23 := Below.refl _ _)
          all_goals (go_region_held3 (fun w' => Below w23.heap.size w23 w') (first | assumption | exact hb0.drew | exact hSw.drew) (first
              | (go_at_call 6; refine (HTB.out _ (by assumption)).mono ?_; rintro e w24 ⟨at24, lt24, ct24, rfl, hqt, hSt⟩)
              | (go_at_call 9; refine (HRB.out _ _ (by assumption) (by first | exact hqt | exact hqt.on (Below.refl _ _).drew)).mono ?_; rintro e w25 ⟨u25, rfl, hq25, hS25⟩)))
          all_goals (have HS25 := hidK hS25)
          all_goals (have HM25 := hidK hq25)
          all_goals (clear hq25 hS25 hqt hSt hb0 hv0 hv1 hv2 hv3 hv4 hv5 hv6 HTB HRB)
          all_goals (have HA25 := hidK (HSM.out w25 (.slice a23 l23 c23) u25 _ ((HL23.out.row elR).on HS25.out) HM25.out (Nat.le_trans (sortL_len o L1) HLn.out)))
          all_goals (have HK25 : Hid (Kp Z w7 w25) := (HK22.out.trans (Kp.of_below HS23.out)).trans (Kp.of_below HS25.out))
          all_goals (obtain ⟨a25, c25, e25, _, _⟩ := HM25.out.form)
          all_goals (obtain ⟨m25, hm25⟩ : ∃ m, m = (sortL o L1).length := ⟨_, rfl⟩)
          all_goals (rw [← hm25] at e25)
          all_goals (subst e25)
          all_goals (clear hm25)
          all_goals (go_upto_region 25 with fail)
          all_goals (go_wp2_with (first
              | (go_at_call 10; refine HA25.out.mono ?_; rintro e w26 ⟨rfl, hb26⟩; have HK26 : Hid (Kp Z w7 w26) := HK25.out.trans (Kp.of_below hb26); clear hb26 HA25; have HA26 := hidK (HSM.out w26 (.slice a5 l5 c5) (.slice a7 k c7) _ (HKX.out _ HK26.out) (HMX.out _ HK26.out) HQ.out))
              | (go_at_call 10; refine HA26.out.mono ?_; rintro e w27 ⟨rfl, hb27⟩; have HK27 : Hid (Kp Z w7 w27) := HK26.out.trans (Kp.of_below hb27); clear hb27 HA26)))
          all_goals (go_ret)
          all_goals (have h9 := (HVX.out _ HK27.out).2)
          all_goals (exact ⟨rfl, HB1.out.trans (h9.mono HB1.out.size)⟩)
end Go.Proofs.Ytbmdclgndlddbaa
