
-- NamesFresh's walk.
import Derived.Test.YtlobgecincppkaaDoorEF
import Derived.Laws.AppendOwnNone
import Derived.WalkSmall
import Derived.Deep.CutRange
namespace Go.Proofs.YtlobgecincppkaaDoor
open Go.ChangeShapes Go.WideShapes Go.ChangeAt Go.RowKit
set_option linter.unusedVariables false
set_option maxRecDepth 100000
theorem hidT8 {p : Prop} (h : p) : Hid p := h
theorem strM_one (l : List ByteArray) : ∀ u ∈ strM l, u.oneCell' = true := by
  intro u hu
  unfold strM at hu
  obtain ⟨x, _, rfl⟩ := List.mem_map.1 hu
  rfl
theorem rowS_news {w : World} {ad : Addr} {n c : Nat} {L : List ByteArray} (h : RowS w (.slice (some ad) n c) L) : n = L.length ∧ ∀ j u, (strM L)[j]? = some u → w.cell? (ad.add j) = some u := by
  rcases h with ⟨rfl, ao, c', e⟩ | ⟨b, off, cap, e, hc⟩
  · injection e with _ e _
    exact ⟨e, fun j u hu => by simp [strM] at hu⟩
  · injection e with e1 e2 e3
    injection e1 with e1
    subst e1
    refine ⟨e2, fun j u hu => ?_⟩
    unfold strM at hu
    rw [List.getElem?_map] at hu
    cases hx : L[j]? with
    | none => rw [hx] at hu; cases hu
    | some x =>
      rw [hx] at hu
      injection hu with hu
      have hj := (List.getElem?_eq_some_iff.1 hx).1
      have := hc j hj
      rw [Addr.add_mid, this, ← hu]
      simp [List.getD, hx]
set_option maxHeartbeats 2000000 in
theorem twin8_c (lv : Value) (L : List ByteArray) (w : World) (hr : RowS w lv L) (hf : lv = .slice none 0 0 ∨ ∃ ad n c, lv = .slice (some ad) n c) (hn : L.length ≤ 1100000) :
    Calls Tryd.prog 5 #[lv] w fun e w' => ∃ ao cap, e = .returned (.slice ao L.length cap) ∧ RowS w' (.slice ao L.length cap) L ∧ Below w.heap.size w w' := by
  obtain ⟨i0, hi, hz0, hz1, hz2⟩ := info_parts9 info9M
  rcases hf with rfl | ⟨ad, n, c, rfl⟩
  · have h0 : L = [] := by
      rcases hr with ⟨h, _⟩ | ⟨b, off, cap, e, _⟩
      · exact h
      · cases e
    subst h0
    go_enter Tryd.func5, Tryd.ntmps5
    go_wp2_with (refine wpList_append_own_none rfl _ _ 22 rfl w.heap.size 9 i0 1 Tryd.underlying22 hi (.slice none 0 0) 0 [] rfl ⟨rfl, .inl ⟨rfl, rfl⟩⟩ rfl ?_)
    go_ret
    exact ⟨none, 0, rfl, .inl ⟨rfl, _, _, rfl⟩, Below.refl _ _⟩
  · obtain ⟨hnl, hc⟩ := rowS_news hr
    subst hnl
    have HC := hidT8 hc
    clear hc hr
    go_enter Tryd.func5, Tryd.ntmps5
    go_wp2_with (refine wpList_append_own _ rfl _ _ 22 rfl w.heap.size 9 i0 (.string ⟨#[]⟩) 1 16 Tryd.underlying22 hi hz0 hz1 hz2 rfl (by decide) (.slice none 0 0) 0 [] rfl ⟨rfl, .inl ⟨rfl, rfl⟩⟩ ad L.length c (strM L) rfl (by rw [strM_length, Nat.mul_one]) HC.out (strM_one L) (by unfold maxLen; omega) (by omega) (Nat.le_refl _) ?_; intro v1 w1 o1 g1 _; rw [Nat.zero_add, List.nil_append] at o1; obtain ⟨ao, cap, rfl, -⟩ := own_formM o1)
    go_ret
    exact ⟨ao, cap, rfl, (RowR.ofOwn o1 (Nat.le_refl _)).1, (Below.refl _ _).grown g1 (Nat.le_refl _) (fun q hq => by cases hq)⟩
/-- the boxes, and the lists that are not written -/
structure KN (w0 : World) (bx : List (Nat × Value × Value × ByteArray)) (rows : List (Nat × Nat × Value × List ByteArray)) (W : World) : Prop where
  low : Below w0.heap.size w0 W
  box : ∀ q ∈ bx, W.heap[q.1]? = some (.cells #[q.2.1, q.2.2.1, .string q.2.2.2] 24 (0, 0))
  row : ∀ q ∈ rows, RowR W q.1 q.2.1 q.2.2.1 q.2.2.2
theorem KN.grown {w0 W W' : World} {bx : List (Nat × Value × Value × ByteArray)} {rows : List (Nat × Nat × Value × List ByteArray)} {r : Option Nat} (h : KN w0 bx rows W) (hg : W.grownBy W' r) (h0 : ∀ k, r = some k → w0.heap.size ≤ k) (h1 : ∀ k, r = some k → ∀ q ∈ bx, q.1 ≠ k) (h2 : ∀ k, r = some k → ∀ q ∈ rows, k < q.1 ∨ q.2.1 ≤ k) : KN w0 bx rows W' := by
  refine ⟨h.low.grown hg h.low.size (fun k hk => h0 k hk), fun q hq => ?_, fun q hq => ?_⟩
  · have hb := h.box q hq
    exact (hg.block q.1 (Array.getElem?_eq_some_iff.1 hb).1 (fun e => h1 q.1 e.symm q hq rfl)).trans hb
  · exact (h.row q hq).grown hg (fun k hk => h2 k hk q hq)
theorem KN.on {w0 W W' : World} {bx : List (Nat × Value × Value × ByteArray)} {rows : List (Nat × Nat × Value × List ByteArray)} (h : KN w0 bx rows W) (hb : Below W.heap.size W W') : KN w0 bx rows W' :=
  h.grown (r := none) ⟨hb.os, hb.tape, hb.output, hb.size, fun k hk _ => hb.block k hk⟩ (fun k hk => by cases hk) (fun k hk => by cases hk) (fun k hk => by cases hk)
theorem KN.box1 {w0 W : World} {bx : List (Nat × Value × Value × ByteArray)} {rows : List (Nat × Nat × Value × List ByteArray)} (h : KN w0 bx rows W) {b : Nat} {F I : Value} {t : ByteArray} (h1 : W.heap[b]? = some (.cells #[F, I, .string t] 24 (0, 0))) : KN w0 ((b, F, I, t) :: bx) rows W :=
  ⟨h.low, fun q hq => by rcases List.mem_cons.1 hq with rfl | h'; exact h1; exact h.box q h', h.row⟩
theorem KN.rows2 {w0 W : World} {bx : List (Nat × Value × Value × ByteArray)} {rows : List (Nat × Nat × Value × List ByteArray)} (h : KN w0 bx rows W) {lo hi lo' hi' : Nat} {v v' : Value} {l l' : List ByteArray} (h1 : RowR W lo hi v l) (h2 : RowR W lo' hi' v' l') : KN w0 bx ((lo, hi, v, l) :: (lo', hi', v', l') :: rows) W :=
  ⟨h.low, h.box, fun q hq => by
    rcases List.mem_cons.1 hq with rfl | h'
    · exact h1
    · rcases List.mem_cons.1 h' with rfl | h'
      · exact h2
      · exact h.row q h'⟩
theorem own_on8 {n₀ : Nat} {W W' : World} {e : TypeId} {size k : Nat} {v : Value} {xs : List Value} (h : W.ownsRow n₀ e size v k xs) (hb : Below W.heap.size W W') : W'.ownsRow n₀ e size v k xs := by
  refine ⟨h.1, ?_⟩
  rcases h.2 with q | ⟨g, cap, cur, q1, q2, q3, q4⟩
  · exact .inl q
  · exact .inr ⟨g, cap, cur, q1, q2, (hb.block g (Array.getElem?_eq_some_iff.1 q3).1).trans q3, q4⟩
theorem kept8 {W W' : World} {B : Nat} {v : Value} {n : Nat} {xs : List Value} {r : Option Nat} (h : W.ownsRow B 9 1 v n xs) (hg : W.grownBy W' r) (hne : ∀ k, v.ownBlock = some k → r ≠ some k) : W'.ownsRow B 9 1 v n xs := by
  refine h.kept hg ?_
  rcases e : v.ownBlock with _ | k
  · exact .inl rfl
  · exact .inr (fun e' => hne k e e'.symm)
theorem below_drew8 {n : Nat} {a b : World} (h : Below n a b) (k : Nat) : Below n a (b.drewN k) := by
  induction k with
  | zero => exact h
  | succ k ih => exact ih.drew
theorem encA_len8 (k : Int) (LL : List ByteArray) : (encA k LL).f.length ≤ LL.length ∧ (encA k LL).i.length ≤ LL.length := by
  unfold encA
  split
  · split
    · unfold fL iL; simp
    · exact ⟨Nat.zero_le _, Nat.zero_le _⟩
  · exact ⟨Nat.zero_le _, Nat.zero_le _⟩
set_option maxHeartbeats 32000000 in
theorem namesFresh_w (k : Int) (lv ov : Value) (La Lb : List ByteArray) (w : World) (ra : RowS w lv La) (rb : RowS w ov Lb) (fa : lv = .slice none 0 0 ∨ ∃ ad n c, lv = .slice (some ad) n c) (fb : ov = .slice none 0 0 ∨ ∃ ad n c, ov = .slice (some ad) n c) (ta : tot La ≤ 1048575) (tb : tot Lb ≤ 1048575) (hT : Tabs w) :
    Calls Tryd.prog 3 #[.int .i64 k, lv, ov] w fun e w' => e = .returned (.bool true) ∧ Below w.heap.size w w' := by
  have hla := tot_len La
  have hlb := tot_len Lb
  have HWa : Hid (∀ W, Below w.heap.size w W → Calls Tryd.prog 5 #[lv] W fun e w' => ∃ ao cap, e = .returned (.slice ao La.length cap) ∧ RowS w' (.slice ao La.length cap) La ∧ Below W.heap.size W w') := fun W hb => twin8_c lv La W (ra.on hb) fa (by omega)
  have HWb : Hid (∀ W, Below w.heap.size w W → Calls Tryd.prog 5 #[ov] W fun e w' => ∃ ao cap, e = .returned (.slice ao Lb.length cap) ∧ RowS w' (.slice ao Lb.length cap) Lb ∧ Below W.heap.size W w') := fun W hb => twin8_c ov Lb W (rb.on hb) fb (by omega)
  have HEa : Hid (∀ v W, Below w.heap.size w W → RowS W v La → Calls Tryd.prog 4 #[.int .i64 k, v] W fun e w' => EncOwn (encA k La) W e w') := fun v W hb hr => pencF_c k v La W hr (by omega) (hT.on hb)
  have HEb : Hid (∀ v W, Below w.heap.size w W → RowS W v Lb → Calls Tryd.prog 4 #[.int .i64 k, v] W fun e w' => EncOwn (encA k Lb) W e w') := fun v W hb hr => pencF_c k v Lb W hr (by omega) (hT.on hb)
  have HDa : Hid (∀ W, Below w.heap.size w W → Calls Tryd.prog 6 #[.int .i64 k, lv] W fun e w' => EncSays (encA k La) W e w') := fun W hb => rencA_c k lv La W (ra.on hb) (by omega) (hT.on hb)
  have HDb : Hid (∀ W, Below w.heap.size w W → Calls Tryd.prog 6 #[.int .i64 k, ov] W fun e w' => EncSays (encA k Lb) W e w') := fun W hb => rencA_c k ov Lb W (rb.on hb) (by omega) (hT.on hb)
  have hAa := encA_len8 k La
  have hAb := encA_len8 k Lb
  have HLa : Hid ((encA k La).f.length ≤ 1048576 ∧ (encA k La).i.length ≤ 1048576) := (by constructor <;> omega)
  have HLb : Hid ((encA k Lb).f.length ≤ 1048576 ∧ (encA k Lb).i.length ≤ 1048576) := (by constructor <;> omega)
  generalize encA k La = AA at *
  generalize encA k Lb = AB at *
  obtain ⟨fA, iA, tA, eA⟩ := AA
  obtain ⟨fB, iB, tB, eB⟩ := AB
  dsimp only at HLa HLb
  have HAL : Hid (∀ (F I F' I' : Value) (t : ByteArray) (lf li : List ByteArray) (W : World), lf.length ≤ 1048576 → li.length ≤ 1048576 → RowS W F lf → RowS W F' lf → RowS W I li → RowS W I' li → Calls Tryd.prog 7 #[.agg #[F, I, .string t], .agg #[F', I', .string t]] W fun e w' => e = .returned (.bool true) ∧ Below W.heap.size W w') := fun F I F' I' t lf li W h1 h2 h3 h4 h5 h6 => alike_c F F' I I' t W ⟨lf, h3, h4, by omega⟩ ⟨li, h5, h6, by omega⟩
  have HSM : Hid (∀ (F F' : Value) (l : List ByteArray) (W : World), l.length ≤ 1048576 → RowS W F l → RowS W F' l → Calls Tryd.prog 9 #[F, F'] W fun e w' => e = .returned (.bool true) ∧ ∃ n, w' = W.drewN n) := fun F F' l W h1 h2 h3 => same2 W W F F' ⟨l, h2, h3, by omega⟩ (Below.refl _ _)
  clear ra rb fa fb ta tb hT hla hlb hAa hAb
  have HK0 : Hid (KN w [] [] w) := ⟨Below.refl _ _, (fun q hq => by cases hq), (fun q hq => by cases hq)⟩
  go_enter Tryd.func3, Tryd.ntmps3
  go_wp2_with fail
  refine (HWa.out _ HK0.out.low).mono ?_
  rintro e u1 ⟨tao, tcap, rfl, tr, b1⟩
  have HI1 := hidT8 (HK0.out.on b1)
  have HTR := hidT8 tr
  have hc1' := b1.size
  clear tr b1
  go_wp2_with fail
  refine (HEa.out _ _ HI1.out.low HTR.out).mono ?_
  rintro e v1 ⟨F, I, rfl, q1, q2, b2, q3⟩
  obtain ⟨fao, fac, rfl, -⟩ := own_formM q1
  obtain ⟨iao, iac, rfl, -⟩ := own_formM q2
  have u1s : ∃ U, U = u1.heap.size := ⟨_, rfl⟩
  obtain ⟨U1, hU1⟩ := u1s
  have hu1 : U1 ≤ v1.heap.size := by rw [hU1]; exact b2.size
  have hc1 : w.heap.size ≤ U1 := by rw [hU1]; exact hc1'
  rw [← hU1] at q1 q2
  have HJ1 := hidT8 (HI1.out.on b2)
  have HOaFv1 : Hid (v1.ownsRow U1 9 1 (Value.slice fao fA.length fac) fA.length (strM fA)) := q1
  have HOaIv1 : Hid (v1.ownsRow U1 9 1 (Value.slice iao iA.length iac) iA.length (strM iA)) := q2
  have Halt : Hid ((∀ g, (Value.slice fao fA.length fac).ownBlock = some g → U1 ≤ g ∧ g < v1.heap.size) ∧ (∀ g, (Value.slice iao iA.length iac).ownBlock = some g → U1 ≤ g ∧ g < v1.heap.size)) := ⟨fun g hg => q1.lt g hg, fun g hg => q2.lt g hg⟩
  have Hane := hidT8 q3
  have HM1 : Hid (KN w [] [] v1) := HJ1.out
  clear q1 q2 b2 q3
  go_upto_region 2 with (refine wpList_store_kz rfl rfl _ _ _ rfl v1.heap.size 0 (.agg #[(Value.slice fao fA.length fac), (Value.slice iao iA.length iac), .string tA]) rfl rfl _ _ #[(Value.slice fao fA.length fac), (Value.slice iao iA.length iac), .string tA] (heap_alloc_new _ _) (by kernel_rfl) rfl rfl rfl ?_; intro W1 R1 q1)
  have B1 : Below v1.heap.size v1 W1 := q1.belowN (bupK (Below.refl _ _) _) (Nat.le_refl _) (Nat.le_refl _)
  have hw1 : v1.heap.size < W1.heap.size := (Array.getElem?_eq_some_iff.1 R1).1
  have HK1 : Hid (KN w [(v1.heap.size, (Value.slice fao fA.length fac), (Value.slice iao iA.length iac), tA)] [] W1) := (HM1.out.on B1).box1 R1
  have HOaFw1 : Hid (W1.ownsRow U1 9 1 (Value.slice fao fA.length fac) fA.length (strM fA)) := own_on8 HOaFv1.out B1
  have HOaIw1 : Hid (W1.ownsRow U1 9 1 (Value.slice iao iA.length iac) iA.length (strM iA)) := own_on8 HOaIv1.out B1
  clear R1 q1 B1 HJ1 HM1 HI1 HTR
  go_wp2_with fail
  refine (HWa.out _ HK1.out.low).mono ?_
  rintro e u2 ⟨tao, tcap, rfl, tr, b1⟩
  have HI2 := hidT8 (HK1.out.on b1)
  have HTR := hidT8 tr
  have hc2' := b1.size
  have HOaFi2 : Hid (u2.ownsRow U1 9 1 (Value.slice fao fA.length fac) fA.length (strM fA)) := own_on8 HOaFw1.out b1
  have HOaIi2 : Hid (u2.ownsRow U1 9 1 (Value.slice iao iA.length iac) iA.length (strM iA)) := own_on8 HOaIw1.out b1
  clear tr b1
  go_wp2_with fail
  refine (HEa.out _ _ HI2.out.low HTR.out).mono ?_
  rintro e v2 ⟨F, I, rfl, q1, q2, b2, q3⟩
  obtain ⟨fco, fcc, rfl, -⟩ := own_formM q1
  obtain ⟨ico, icc, rfl, -⟩ := own_formM q2
  have u2s : ∃ U, U = u2.heap.size := ⟨_, rfl⟩
  obtain ⟨U2, hU2⟩ := u2s
  have hu2 : U2 ≤ v2.heap.size := by rw [hU2]; exact b2.size
  have hc2 : W1.heap.size ≤ U2 := by rw [hU2]; exact hc2'
  rw [← hU2] at q1 q2
  have HJ2 := hidT8 (HI2.out.on b2)
  have HOaFv2 : Hid (v2.ownsRow U1 9 1 (Value.slice fao fA.length fac) fA.length (strM fA)) := own_on8 HOaFi2.out b2
  have HOaIv2 : Hid (v2.ownsRow U1 9 1 (Value.slice iao iA.length iac) iA.length (strM iA)) := own_on8 HOaIi2.out b2
  have HM2 : Hid (KN w [(v1.heap.size, (Value.slice fao fA.length fac), (Value.slice iao iA.length iac), tA)] [(U2, v2.heap.size, (Value.slice fco fA.length fcc), fA), (U2, v2.heap.size, (Value.slice ico iA.length icc), iA)] v2) := HJ2.out.rows2 (RowR.ofOwn q1 (Nat.le_refl _)) (RowR.ofOwn q2 (Nat.le_refl _))
  clear q1 q2 b2 q3
  go_upto_region 3 with (refine wpList_store_kz rfl rfl _ _ _ rfl v2.heap.size 0 (.agg #[(Value.slice fco fA.length fcc), (Value.slice ico iA.length icc), .string tA]) rfl rfl _ _ #[(Value.slice fco fA.length fcc), (Value.slice ico iA.length icc), .string tA] (heap_alloc_new _ _) (by kernel_rfl) rfl rfl rfl ?_; intro W2 R2 q2)
  have B2 : Below v2.heap.size v2 W2 := q2.belowN (bupK (Below.refl _ _) _) (Nat.le_refl _) (Nat.le_refl _)
  have hw2 : v2.heap.size < W2.heap.size := (Array.getElem?_eq_some_iff.1 R2).1
  have HK2 : Hid (KN w [(v2.heap.size, (Value.slice fco fA.length fcc), (Value.slice ico iA.length icc), tA), (v1.heap.size, (Value.slice fao fA.length fac), (Value.slice iao iA.length iac), tA)] [(U2, v2.heap.size, (Value.slice fco fA.length fcc), fA), (U2, v2.heap.size, (Value.slice ico iA.length icc), iA)] W2) := (HM2.out.on B2).box1 R2
  have HOaFw2 : Hid (W2.ownsRow U1 9 1 (Value.slice fao fA.length fac) fA.length (strM fA)) := own_on8 HOaFv2.out B2
  have HOaIw2 : Hid (W2.ownsRow U1 9 1 (Value.slice iao iA.length iac) iA.length (strM iA)) := own_on8 HOaIv2.out B2
  clear R2 q2 B2 HJ2 HM2 HI2 HTR
  go_wp2_with fail
  refine (HWb.out _ HK2.out.low).mono ?_
  rintro e u3 ⟨tao, tcap, rfl, tr, b1⟩
  have HI3 := hidT8 (HK2.out.on b1)
  have HTR := hidT8 tr
  have hc3' := b1.size
  have HOaFi3 : Hid (u3.ownsRow U1 9 1 (Value.slice fao fA.length fac) fA.length (strM fA)) := own_on8 HOaFw2.out b1
  have HOaIi3 : Hid (u3.ownsRow U1 9 1 (Value.slice iao iA.length iac) iA.length (strM iA)) := own_on8 HOaIw2.out b1
  clear tr b1
  go_wp2_with fail
  refine (HEb.out _ _ HI3.out.low HTR.out).mono ?_
  rintro e v3 ⟨F, I, rfl, q1, q2, b2, q3⟩
  obtain ⟨fbo, fbc, rfl, -⟩ := own_formM q1
  obtain ⟨ibo, ibc, rfl, -⟩ := own_formM q2
  have u3s : ∃ U, U = u3.heap.size := ⟨_, rfl⟩
  obtain ⟨U3, hU3⟩ := u3s
  have hu3 : U3 ≤ v3.heap.size := by rw [hU3]; exact b2.size
  have hc3 : W2.heap.size ≤ U3 := by rw [hU3]; exact hc3'
  rw [← hU3] at q1 q2
  have HJ3 := hidT8 (HI3.out.on b2)
  have HOaFv3 : Hid (v3.ownsRow U1 9 1 (Value.slice fao fA.length fac) fA.length (strM fA)) := own_on8 HOaFi3.out b2
  have HOaIv3 : Hid (v3.ownsRow U1 9 1 (Value.slice iao iA.length iac) iA.length (strM iA)) := own_on8 HOaIi3.out b2
  have HObFv3 : Hid (v3.ownsRow U3 9 1 (Value.slice fbo fB.length fbc) fB.length (strM fB)) := q1
  have HObIv3 : Hid (v3.ownsRow U3 9 1 (Value.slice ibo iB.length ibc) iB.length (strM iB)) := q2
  have Hblt : Hid ((∀ g, (Value.slice fbo fB.length fbc).ownBlock = some g → U3 ≤ g ∧ g < v3.heap.size) ∧ (∀ g, (Value.slice ibo iB.length ibc).ownBlock = some g → U3 ≤ g ∧ g < v3.heap.size)) := ⟨fun g hg => q1.lt g hg, fun g hg => q2.lt g hg⟩
  have Hbne := hidT8 q3
  have HM3 : Hid (KN w [(v2.heap.size, (Value.slice fco fA.length fcc), (Value.slice ico iA.length icc), tA), (v1.heap.size, (Value.slice fao fA.length fac), (Value.slice iao iA.length iac), tA)] [(U2, v2.heap.size, (Value.slice fco fA.length fcc), fA), (U2, v2.heap.size, (Value.slice ico iA.length icc), iA)] v3) := HJ3.out
  clear q1 q2 b2 q3
  go_upto_region 4 with (refine wpList_store_kz rfl rfl _ _ _ rfl v3.heap.size 0 (.agg #[(Value.slice fbo fB.length fbc), (Value.slice ibo iB.length ibc), .string tB]) rfl rfl _ _ #[(Value.slice fbo fB.length fbc), (Value.slice ibo iB.length ibc), .string tB] (heap_alloc_new _ _) (by kernel_rfl) rfl rfl rfl ?_; intro W3 R3 q3)
  have B3 : Below v3.heap.size v3 W3 := q3.belowN (bupK (Below.refl _ _) _) (Nat.le_refl _) (Nat.le_refl _)
  have hw3 : v3.heap.size < W3.heap.size := (Array.getElem?_eq_some_iff.1 R3).1
  have HK3 : Hid (KN w [(v3.heap.size, (Value.slice fbo fB.length fbc), (Value.slice ibo iB.length ibc), tB), (v2.heap.size, (Value.slice fco fA.length fcc), (Value.slice ico iA.length icc), tA), (v1.heap.size, (Value.slice fao fA.length fac), (Value.slice iao iA.length iac), tA)] [(U2, v2.heap.size, (Value.slice fco fA.length fcc), fA), (U2, v2.heap.size, (Value.slice ico iA.length icc), iA)] W3) := (HM3.out.on B3).box1 R3
  have HOaFw3 : Hid (W3.ownsRow U1 9 1 (Value.slice fao fA.length fac) fA.length (strM fA)) := own_on8 HOaFv3.out B3
  have HOaIw3 : Hid (W3.ownsRow U1 9 1 (Value.slice iao iA.length iac) iA.length (strM iA)) := own_on8 HOaIv3.out B3
  have HObFw3 : Hid (W3.ownsRow U3 9 1 (Value.slice fbo fB.length fbc) fB.length (strM fB)) := own_on8 HObFv3.out B3
  have HObIw3 : Hid (W3.ownsRow U3 9 1 (Value.slice ibo iB.length ibc) iB.length (strM iB)) := own_on8 HObIv3.out B3
  clear R3 q3 B3 HJ3 HM3 HI3 HTR
  go_wp2_with fail
  refine (HWb.out _ HK3.out.low).mono ?_
  rintro e u4 ⟨tao, tcap, rfl, tr, b1⟩
  have HI4 := hidT8 (HK3.out.on b1)
  have HTR := hidT8 tr
  have hc4' := b1.size
  have HOaFi4 : Hid (u4.ownsRow U1 9 1 (Value.slice fao fA.length fac) fA.length (strM fA)) := own_on8 HOaFw3.out b1
  have HOaIi4 : Hid (u4.ownsRow U1 9 1 (Value.slice iao iA.length iac) iA.length (strM iA)) := own_on8 HOaIw3.out b1
  have HObFi4 : Hid (u4.ownsRow U3 9 1 (Value.slice fbo fB.length fbc) fB.length (strM fB)) := own_on8 HObFw3.out b1
  have HObIi4 : Hid (u4.ownsRow U3 9 1 (Value.slice ibo iB.length ibc) iB.length (strM iB)) := own_on8 HObIw3.out b1
  clear tr b1
  go_wp2_with fail
  refine (HEb.out _ _ HI4.out.low HTR.out).mono ?_
  rintro e v4 ⟨F, I, rfl, q1, q2, b2, q3⟩
  obtain ⟨fto, ftc, rfl, -⟩ := own_formM q1
  obtain ⟨ito, itc, rfl, -⟩ := own_formM q2
  have u4s : ∃ U, U = u4.heap.size := ⟨_, rfl⟩
  obtain ⟨U4, hU4⟩ := u4s
  have hu4 : U4 ≤ v4.heap.size := by rw [hU4]; exact b2.size
  have hc4 : W3.heap.size ≤ U4 := by rw [hU4]; exact hc4'
  rw [← hU4] at q1 q2
  have HJ4 := hidT8 (HI4.out.on b2)
  have HOaFv4 : Hid (v4.ownsRow U1 9 1 (Value.slice fao fA.length fac) fA.length (strM fA)) := own_on8 HOaFi4.out b2
  have HOaIv4 : Hid (v4.ownsRow U1 9 1 (Value.slice iao iA.length iac) iA.length (strM iA)) := own_on8 HOaIi4.out b2
  have HObFv4 : Hid (v4.ownsRow U3 9 1 (Value.slice fbo fB.length fbc) fB.length (strM fB)) := own_on8 HObFi4.out b2
  have HObIv4 : Hid (v4.ownsRow U3 9 1 (Value.slice ibo iB.length ibc) iB.length (strM iB)) := own_on8 HObIi4.out b2
  have HM4 : Hid (KN w [(v3.heap.size, (Value.slice fbo fB.length fbc), (Value.slice ibo iB.length ibc), tB), (v2.heap.size, (Value.slice fco fA.length fcc), (Value.slice ico iA.length icc), tA), (v1.heap.size, (Value.slice fao fA.length fac), (Value.slice iao iA.length iac), tA)] [(U4, v4.heap.size, (Value.slice fto fB.length ftc), fB), (U4, v4.heap.size, (Value.slice ito iB.length itc), iB), (U2, v2.heap.size, (Value.slice fco fA.length fcc), fA), (U2, v2.heap.size, (Value.slice ico iA.length icc), iA)] v4) := HJ4.out.rows2 (RowR.ofOwn q1 (Nat.le_refl _)) (RowR.ofOwn q2 (Nat.le_refl _))
  clear q1 q2 b2 q3
  go_upto_region 5 with (refine wpList_store_kz rfl rfl _ _ _ rfl v4.heap.size 0 (.agg #[(Value.slice fto fB.length ftc), (Value.slice ito iB.length itc), .string tB]) rfl rfl _ _ #[(Value.slice fto fB.length ftc), (Value.slice ito iB.length itc), .string tB] (heap_alloc_new _ _) (by kernel_rfl) rfl rfl rfl ?_; intro W4 R4 q4)
  have B4 : Below v4.heap.size v4 W4 := q4.belowN (bupK (Below.refl _ _) _) (Nat.le_refl _) (Nat.le_refl _)
  have hw4 : v4.heap.size < W4.heap.size := (Array.getElem?_eq_some_iff.1 R4).1
  have HK4 : Hid (KN w [(v4.heap.size, (Value.slice fto fB.length ftc), (Value.slice ito iB.length itc), tB), (v3.heap.size, (Value.slice fbo fB.length fbc), (Value.slice ibo iB.length ibc), tB), (v2.heap.size, (Value.slice fco fA.length fcc), (Value.slice ico iA.length icc), tA), (v1.heap.size, (Value.slice fao fA.length fac), (Value.slice iao iA.length iac), tA)] [(U4, v4.heap.size, (Value.slice fto fB.length ftc), fB), (U4, v4.heap.size, (Value.slice ito iB.length itc), iB), (U2, v2.heap.size, (Value.slice fco fA.length fcc), fA), (U2, v2.heap.size, (Value.slice ico iA.length icc), iA)] W4) := (HM4.out.on B4).box1 R4
  have HOaFw4 : Hid (W4.ownsRow U1 9 1 (Value.slice fao fA.length fac) fA.length (strM fA)) := own_on8 HOaFv4.out B4
  have HOaIw4 : Hid (W4.ownsRow U1 9 1 (Value.slice iao iA.length iac) iA.length (strM iA)) := own_on8 HOaIv4.out B4
  have HObFw4 : Hid (W4.ownsRow U3 9 1 (Value.slice fbo fB.length fbc) fB.length (strM fB)) := own_on8 HObFv4.out B4
  have HObIw4 : Hid (W4.ownsRow U3 9 1 (Value.slice ibo iB.length ibc) iB.length (strM iB)) := own_on8 HObIv4.out B4
  clear R4 q4 B4 HJ4 HM4 HI4 HTR
  go_wp2_with fail
  refine (HWa.out _ HK4.out.low).mono ?_
  rintro e u5 ⟨tao, tcap, rfl, tr, b1⟩
  have HI5 := hidT8 (HK4.out.on b1)
  have HTR := hidT8 tr
  have hc5' := b1.size
  have HOaFi5 : Hid (u5.ownsRow U1 9 1 (Value.slice fao fA.length fac) fA.length (strM fA)) := own_on8 HOaFw4.out b1
  have HOaIi5 : Hid (u5.ownsRow U1 9 1 (Value.slice iao iA.length iac) iA.length (strM iA)) := own_on8 HOaIw4.out b1
  have HObFi5 : Hid (u5.ownsRow U3 9 1 (Value.slice fbo fB.length fbc) fB.length (strM fB)) := own_on8 HObFw4.out b1
  have HObIi5 : Hid (u5.ownsRow U3 9 1 (Value.slice ibo iB.length ibc) iB.length (strM iB)) := own_on8 HObIw4.out b1
  clear tr b1
  go_wp2_with fail
  refine (HEa.out _ _ HI5.out.low HTR.out).mono ?_
  rintro e v5 ⟨F, I, rfl, q1, q2, b2, q3⟩
  obtain ⟨fzo, fzc, rfl, -⟩ := own_formM q1
  obtain ⟨izo, izc, rfl, -⟩ := own_formM q2
  have u5s : ∃ U, U = u5.heap.size := ⟨_, rfl⟩
  obtain ⟨U5, hU5⟩ := u5s
  have hu5 : U5 ≤ v5.heap.size := by rw [hU5]; exact b2.size
  have hc5 : W4.heap.size ≤ U5 := by rw [hU5]; exact hc5'
  rw [← hU5] at q1 q2
  have HJ5 := hidT8 (HI5.out.on b2)
  have HOaFv5 : Hid (v5.ownsRow U1 9 1 (Value.slice fao fA.length fac) fA.length (strM fA)) := own_on8 HOaFi5.out b2
  have HOaIv5 : Hid (v5.ownsRow U1 9 1 (Value.slice iao iA.length iac) iA.length (strM iA)) := own_on8 HOaIi5.out b2
  have HObFv5 : Hid (v5.ownsRow U3 9 1 (Value.slice fbo fB.length fbc) fB.length (strM fB)) := own_on8 HObFi5.out b2
  have HObIv5 : Hid (v5.ownsRow U3 9 1 (Value.slice ibo iB.length ibc) iB.length (strM iB)) := own_on8 HObIi5.out b2
  have HM5 : Hid (KN w [(v4.heap.size, (Value.slice fto fB.length ftc), (Value.slice ito iB.length itc), tB), (v3.heap.size, (Value.slice fbo fB.length fbc), (Value.slice ibo iB.length ibc), tB), (v2.heap.size, (Value.slice fco fA.length fcc), (Value.slice ico iA.length icc), tA), (v1.heap.size, (Value.slice fao fA.length fac), (Value.slice iao iA.length iac), tA)] [(U5, v5.heap.size, (Value.slice fzo fA.length fzc), fA), (U5, v5.heap.size, (Value.slice izo iA.length izc), iA), (U4, v4.heap.size, (Value.slice fto fB.length ftc), fB), (U4, v4.heap.size, (Value.slice ito iB.length itc), iB), (U2, v2.heap.size, (Value.slice fco fA.length fcc), fA), (U2, v2.heap.size, (Value.slice ico iA.length icc), iA)] v5) := HJ5.out.rows2 (RowR.ofOwn q1 (Nat.le_refl _)) (RowR.ofOwn q2 (Nat.le_refl _))
  clear q1 q2 b2 q3
  go_upto_region 6 with (refine wpList_store_kz rfl rfl _ _ _ rfl v5.heap.size 0 (.agg #[(Value.slice fzo fA.length fzc), (Value.slice izo iA.length izc), .string tA]) rfl rfl _ _ #[(Value.slice fzo fA.length fzc), (Value.slice izo iA.length izc), .string tA] (heap_alloc_new _ _) (by kernel_rfl) rfl rfl rfl ?_; intro W5 R5 q5)
  have B5 : Below v5.heap.size v5 W5 := q5.belowN (bupK (Below.refl _ _) _) (Nat.le_refl _) (Nat.le_refl _)
  have hw5 : v5.heap.size < W5.heap.size := (Array.getElem?_eq_some_iff.1 R5).1
  have HK5 : Hid (KN w [(v5.heap.size, (Value.slice fzo fA.length fzc), (Value.slice izo iA.length izc), tA), (v4.heap.size, (Value.slice fto fB.length ftc), (Value.slice ito iB.length itc), tB), (v3.heap.size, (Value.slice fbo fB.length fbc), (Value.slice ibo iB.length ibc), tB), (v2.heap.size, (Value.slice fco fA.length fcc), (Value.slice ico iA.length icc), tA), (v1.heap.size, (Value.slice fao fA.length fac), (Value.slice iao iA.length iac), tA)] [(U5, v5.heap.size, (Value.slice fzo fA.length fzc), fA), (U5, v5.heap.size, (Value.slice izo iA.length izc), iA), (U4, v4.heap.size, (Value.slice fto fB.length ftc), fB), (U4, v4.heap.size, (Value.slice ito iB.length itc), iB), (U2, v2.heap.size, (Value.slice fco fA.length fcc), fA), (U2, v2.heap.size, (Value.slice ico iA.length icc), iA)] W5) := (HM5.out.on B5).box1 R5
  have HOaFw5 : Hid (W5.ownsRow U1 9 1 (Value.slice fao fA.length fac) fA.length (strM fA)) := own_on8 HOaFv5.out B5
  have HOaIw5 : Hid (W5.ownsRow U1 9 1 (Value.slice iao iA.length iac) iA.length (strM iA)) := own_on8 HOaIv5.out B5
  have HObFw5 : Hid (W5.ownsRow U3 9 1 (Value.slice fbo fB.length fbc) fB.length (strM fB)) := own_on8 HObFv5.out B5
  have HObIw5 : Hid (W5.ownsRow U3 9 1 (Value.slice ibo iB.length ibc) iB.length (strM iB)) := own_on8 HObIv5.out B5
  clear R5 q5 B5 HJ5 HM5 HI5 HTR
  go_wp2_with fail
  refine (HDa.out _ HK5.out.low).mono ?_
  rintro e v6 ⟨fxo, fxl, fxc, ixo, ixl, ixc, rfl, q1, q2, b2, q3, q4⟩
  have lf := q1.form
  obtain ⟨_, _, e1⟩ := lf
  injection e1 with e1a e1b e1c
  have li := q2.form
  obtain ⟨_, _, e2⟩ := li
  injection e2 with e2a e2b e2c
  simp only [] at e1b e2b
  subst e1b
  subst e2b
  clear e1a e1c e2a e2c
  have u6s : ∃ U, U = W5.heap.size := ⟨_, rfl⟩
  obtain ⟨U6, hU6⟩ := u6s
  rw [← hU6] at q3 q4
  have hc6 : W5.heap.size ≤ U6 := Nat.le_of_eq hU6.symm
  have hu6 : U6 ≤ v6.heap.size := by rw [hU6]; exact b2.size
  have HJ6 := hidT8 (HK5.out.on b2)
  have HOaFv6 : Hid (v6.ownsRow U1 9 1 (Value.slice fao fA.length fac) fA.length (strM fA)) := own_on8 HOaFw5.out b2
  have HOaIv6 : Hid (v6.ownsRow U1 9 1 (Value.slice iao iA.length iac) iA.length (strM iA)) := own_on8 HOaIw5.out b2
  have HObFv6 : Hid (v6.ownsRow U3 9 1 (Value.slice fbo fB.length fbc) fB.length (strM fB)) := own_on8 HObFw5.out b2
  have HObIv6 : Hid (v6.ownsRow U3 9 1 (Value.slice ibo iB.length ibc) iB.length (strM iB)) := own_on8 HObIw5.out b2
  have HM6 : Hid (KN w [(v5.heap.size, (Value.slice fzo fA.length fzc), (Value.slice izo iA.length izc), tA), (v4.heap.size, (Value.slice fto fB.length ftc), (Value.slice ito iB.length itc), tB), (v3.heap.size, (Value.slice fbo fB.length fbc), (Value.slice ibo iB.length ibc), tB), (v2.heap.size, (Value.slice fco fA.length fcc), (Value.slice ico iA.length icc), tA), (v1.heap.size, (Value.slice fao fA.length fac), (Value.slice iao iA.length iac), tA)] [(U6, v6.heap.size, (Value.slice fxo fA.length fxc), fA), (U6, v6.heap.size, (Value.slice ixo iA.length ixc), iA), (U5, v5.heap.size, (Value.slice fzo fA.length fzc), fA), (U5, v5.heap.size, (Value.slice izo iA.length izc), iA), (U4, v4.heap.size, (Value.slice fto fB.length ftc), fB), (U4, v4.heap.size, (Value.slice ito iB.length itc), iB), (U2, v2.heap.size, (Value.slice fco fA.length fcc), fA), (U2, v2.heap.size, (Value.slice ico iA.length icc), iA)] v6) := HJ6.out.rows2 (RowR.ofS q1 q3 (Nat.le_refl _)) (RowR.ofS q2 q4 (Nat.le_refl _))
  clear q1 q2 b2 q3 q4
  go_upto_region 7 with (refine wpList_store_kz rfl rfl _ _ _ rfl v6.heap.size 0 (.agg #[(Value.slice fxo fA.length fxc), (Value.slice ixo iA.length ixc), .string tA]) rfl rfl _ _ #[(Value.slice fxo fA.length fxc), (Value.slice ixo iA.length ixc), .string tA] (heap_alloc_new _ _) (by kernel_rfl) rfl rfl rfl ?_; intro W6 R6 q6)
  have B6 : Below v6.heap.size v6 W6 := q6.belowN (bupK (Below.refl _ _) _) (Nat.le_refl _) (Nat.le_refl _)
  have hw6 : v6.heap.size < W6.heap.size := (Array.getElem?_eq_some_iff.1 R6).1
  have HK6 : Hid (KN w [(v6.heap.size, (Value.slice fxo fA.length fxc), (Value.slice ixo iA.length ixc), tA), (v5.heap.size, (Value.slice fzo fA.length fzc), (Value.slice izo iA.length izc), tA), (v4.heap.size, (Value.slice fto fB.length ftc), (Value.slice ito iB.length itc), tB), (v3.heap.size, (Value.slice fbo fB.length fbc), (Value.slice ibo iB.length ibc), tB), (v2.heap.size, (Value.slice fco fA.length fcc), (Value.slice ico iA.length icc), tA), (v1.heap.size, (Value.slice fao fA.length fac), (Value.slice iao iA.length iac), tA)] [(U6, v6.heap.size, (Value.slice fxo fA.length fxc), fA), (U6, v6.heap.size, (Value.slice ixo iA.length ixc), iA), (U5, v5.heap.size, (Value.slice fzo fA.length fzc), fA), (U5, v5.heap.size, (Value.slice izo iA.length izc), iA), (U4, v4.heap.size, (Value.slice fto fB.length ftc), fB), (U4, v4.heap.size, (Value.slice ito iB.length itc), iB), (U2, v2.heap.size, (Value.slice fco fA.length fcc), fA), (U2, v2.heap.size, (Value.slice ico iA.length icc), iA)] W6) := (HM6.out.on B6).box1 R6
  have HOaFw6 : Hid (W6.ownsRow U1 9 1 (Value.slice fao fA.length fac) fA.length (strM fA)) := own_on8 HOaFv6.out B6
  have HOaIw6 : Hid (W6.ownsRow U1 9 1 (Value.slice iao iA.length iac) iA.length (strM iA)) := own_on8 HOaIv6.out B6
  have HObFw6 : Hid (W6.ownsRow U3 9 1 (Value.slice fbo fB.length fbc) fB.length (strM fB)) := own_on8 HObFv6.out B6
  have HObIw6 : Hid (W6.ownsRow U3 9 1 (Value.slice ibo iB.length ibc) iB.length (strM iB)) := own_on8 HObIv6.out B6
  clear R6 q6 B6 HJ6 HM6
  go_wp2_with fail
  refine (HDb.out _ HK6.out.low).mono ?_
  rintro e v7 ⟨fyo, fyl, fyc, iyo, iyl, iyc, rfl, q1, q2, b2, q3, q4⟩
  have lf := q1.form
  obtain ⟨_, _, e1⟩ := lf
  injection e1 with e1a e1b e1c
  have li := q2.form
  obtain ⟨_, _, e2⟩ := li
  injection e2 with e2a e2b e2c
  simp only [] at e1b e2b
  subst e1b
  subst e2b
  clear e1a e1c e2a e2c
  have u7s : ∃ U, U = W6.heap.size := ⟨_, rfl⟩
  obtain ⟨U7, hU7⟩ := u7s
  rw [← hU7] at q3 q4
  have hc7 : W6.heap.size ≤ U7 := Nat.le_of_eq hU7.symm
  have hu7 : U7 ≤ v7.heap.size := by rw [hU7]; exact b2.size
  have HJ7 := hidT8 (HK6.out.on b2)
  have HOaFv7 : Hid (v7.ownsRow U1 9 1 (Value.slice fao fA.length fac) fA.length (strM fA)) := own_on8 HOaFw6.out b2
  have HOaIv7 : Hid (v7.ownsRow U1 9 1 (Value.slice iao iA.length iac) iA.length (strM iA)) := own_on8 HOaIw6.out b2
  have HObFv7 : Hid (v7.ownsRow U3 9 1 (Value.slice fbo fB.length fbc) fB.length (strM fB)) := own_on8 HObFw6.out b2
  have HObIv7 : Hid (v7.ownsRow U3 9 1 (Value.slice ibo iB.length ibc) iB.length (strM iB)) := own_on8 HObIw6.out b2
  have HM7 : Hid (KN w [(v6.heap.size, (Value.slice fxo fA.length fxc), (Value.slice ixo iA.length ixc), tA), (v5.heap.size, (Value.slice fzo fA.length fzc), (Value.slice izo iA.length izc), tA), (v4.heap.size, (Value.slice fto fB.length ftc), (Value.slice ito iB.length itc), tB), (v3.heap.size, (Value.slice fbo fB.length fbc), (Value.slice ibo iB.length ibc), tB), (v2.heap.size, (Value.slice fco fA.length fcc), (Value.slice ico iA.length icc), tA), (v1.heap.size, (Value.slice fao fA.length fac), (Value.slice iao iA.length iac), tA)] [(U7, v7.heap.size, (Value.slice fyo fB.length fyc), fB), (U7, v7.heap.size, (Value.slice iyo iB.length iyc), iB), (U6, v6.heap.size, (Value.slice fxo fA.length fxc), fA), (U6, v6.heap.size, (Value.slice ixo iA.length ixc), iA), (U5, v5.heap.size, (Value.slice fzo fA.length fzc), fA), (U5, v5.heap.size, (Value.slice izo iA.length izc), iA), (U4, v4.heap.size, (Value.slice fto fB.length ftc), fB), (U4, v4.heap.size, (Value.slice ito iB.length itc), iB), (U2, v2.heap.size, (Value.slice fco fA.length fcc), fA), (U2, v2.heap.size, (Value.slice ico iA.length icc), iA)] v7) := HJ7.out.rows2 (RowR.ofS q1 q3 (Nat.le_refl _)) (RowR.ofS q2 q4 (Nat.le_refl _))
  clear q1 q2 b2 q3 q4
  go_upto_region 8 with (refine wpList_store_kz rfl rfl _ _ _ rfl v7.heap.size 0 (.agg #[(Value.slice fyo fB.length fyc), (Value.slice iyo iB.length iyc), .string tB]) rfl rfl _ _ #[(Value.slice fyo fB.length fyc), (Value.slice iyo iB.length iyc), .string tB] (heap_alloc_new _ _) (by kernel_rfl) rfl rfl rfl ?_; intro W7 R7 q7)
  have B7 : Below v7.heap.size v7 W7 := q7.belowN (bupK (Below.refl _ _) _) (Nat.le_refl _) (Nat.le_refl _)
  have hw7 : v7.heap.size < W7.heap.size := (Array.getElem?_eq_some_iff.1 R7).1
  have HK7 : Hid (KN w [(v7.heap.size, (Value.slice fyo fB.length fyc), (Value.slice iyo iB.length iyc), tB), (v6.heap.size, (Value.slice fxo fA.length fxc), (Value.slice ixo iA.length ixc), tA), (v5.heap.size, (Value.slice fzo fA.length fzc), (Value.slice izo iA.length izc), tA), (v4.heap.size, (Value.slice fto fB.length ftc), (Value.slice ito iB.length itc), tB), (v3.heap.size, (Value.slice fbo fB.length fbc), (Value.slice ibo iB.length ibc), tB), (v2.heap.size, (Value.slice fco fA.length fcc), (Value.slice ico iA.length icc), tA), (v1.heap.size, (Value.slice fao fA.length fac), (Value.slice iao iA.length iac), tA)] [(U7, v7.heap.size, (Value.slice fyo fB.length fyc), fB), (U7, v7.heap.size, (Value.slice iyo iB.length iyc), iB), (U6, v6.heap.size, (Value.slice fxo fA.length fxc), fA), (U6, v6.heap.size, (Value.slice ixo iA.length ixc), iA), (U5, v5.heap.size, (Value.slice fzo fA.length fzc), fA), (U5, v5.heap.size, (Value.slice izo iA.length izc), iA), (U4, v4.heap.size, (Value.slice fto fB.length ftc), fB), (U4, v4.heap.size, (Value.slice ito iB.length itc), iB), (U2, v2.heap.size, (Value.slice fco fA.length fcc), fA), (U2, v2.heap.size, (Value.slice ico iA.length icc), iA)] W7) := (HM7.out.on B7).box1 R7
  have HOaFw7 : Hid (W7.ownsRow U1 9 1 (Value.slice fao fA.length fac) fA.length (strM fA)) := own_on8 HOaFv7.out B7
  have HOaIw7 : Hid (W7.ownsRow U1 9 1 (Value.slice iao iA.length iac) iA.length (strM iA)) := own_on8 HOaIv7.out B7
  have HObFw7 : Hid (W7.ownsRow U3 9 1 (Value.slice fbo fB.length fbc) fB.length (strM fB)) := own_on8 HObFv7.out B7
  have HObIw7 : Hid (W7.ownsRow U3 9 1 (Value.slice ibo iB.length ibc) iB.length (strM iB)) := own_on8 HObIv7.out B7
  clear R7 q7 B7 HJ7 HM7
  have HS : Hid (w.heap.size ≤ U1 ∧ U1 ≤ v1.heap.size ∧ v1.heap.size < U2 ∧ U2 ≤ v2.heap.size ∧ v2.heap.size < U3 ∧ U3 ≤ v3.heap.size ∧ v3.heap.size < U4 ∧ U4 ≤ v4.heap.size ∧ v4.heap.size < U5 ∧ U5 ≤ v5.heap.size ∧ v5.heap.size < U6 ∧ U6 ≤ v6.heap.size ∧ v6.heap.size < U7 ∧ U7 ≤ v7.heap.size ∧ v7.heap.size < W7.heap.size) := ⟨hc1, hu1, by omega, hu2, by omega, hu3, by omega, hu4, by omega, hu5, by omega, hu6, by omega, hu7, hw7⟩
  clear hc1 hu1 hw1 hc2 hu2 hw2 hc3 hu3 hw3 hc4 hu4 hw4 hc5 hu5 hw5 hc6 hu6 hw6 hc7 hu7 hw7
  have HW77 : Hid (W7.heap.size ≤ W7.heap.size) := Nat.le_refl _
  have bxa := HK7.out.box (v1.heap.size, (Value.slice fao fA.length fac), (Value.slice iao iA.length iac), tA) (by simp)
  have ca0 := cell_rowK bxa 0 _ rfl
  have ca1 := cell_rowK bxa 1 _ rfl
  have ca2 := cell_rowK bxa 2 _ rfl
  clear bxa
  have bxx := HK7.out.box (v6.heap.size, (Value.slice fxo fA.length fxc), (Value.slice ixo iA.length ixc), tA) (by simp)
  have cx0 := cell_rowK bxx 0 _ rfl
  have cx1 := cell_rowK bxx 1 _ rfl
  have cx2 := cell_rowK bxx 2 _ rfl
  clear bxx
  go_wp2_with fail
  refine (HAL.out _ _ _ _ _ fA iA _ HLa.out.1 HLa.out.2 (RowR.ofOwn HOaFw7.out (Nat.le_refl _)).1 (HK7.out.row (U6, v6.heap.size, (Value.slice fxo fA.length fxc), fA) (by simp)).1 (RowR.ofOwn HOaIw7.out (Nat.le_refl _)).1 (HK7.out.row (U6, v6.heap.size, (Value.slice ixo iA.length ixc), iA) (by simp)).1).mono ?_
  rintro e W8 ⟨rfl, bb⟩
  clear ca0 ca1 ca2 cx0 cx1 cx2
  have HK8 : Hid (KN w [(v7.heap.size, (Value.slice fyo fB.length fyc), (Value.slice iyo iB.length iyc), tB), (v6.heap.size, (Value.slice fxo fA.length fxc), (Value.slice ixo iA.length ixc), tA), (v5.heap.size, (Value.slice fzo fA.length fzc), (Value.slice izo iA.length izc), tA), (v4.heap.size, (Value.slice fto fB.length ftc), (Value.slice ito iB.length itc), tB), (v3.heap.size, (Value.slice fbo fB.length fbc), (Value.slice ibo iB.length ibc), tB), (v2.heap.size, (Value.slice fco fA.length fcc), (Value.slice ico iA.length icc), tA), (v1.heap.size, (Value.slice fao fA.length fac), (Value.slice iao iA.length iac), tA)] [(U7, v7.heap.size, (Value.slice fyo fB.length fyc), fB), (U7, v7.heap.size, (Value.slice iyo iB.length iyc), iB), (U6, v6.heap.size, (Value.slice fxo fA.length fxc), fA), (U6, v6.heap.size, (Value.slice ixo iA.length ixc), iA), (U5, v5.heap.size, (Value.slice fzo fA.length fzc), fA), (U5, v5.heap.size, (Value.slice izo iA.length izc), iA), (U4, v4.heap.size, (Value.slice fto fB.length ftc), fB), (U4, v4.heap.size, (Value.slice ito iB.length itc), iB), (U2, v2.heap.size, (Value.slice fco fA.length fcc), fA), (U2, v2.heap.size, (Value.slice ico iA.length icc), iA)] W8) := HK7.out.on bb
  have HOaF8 : Hid (W8.ownsRow U1 9 1 (Value.slice fao fA.length fac) fA.length (strM fA)) := own_on8 HOaFw7.out bb
  have HOaI8 : Hid (W8.ownsRow U1 9 1 (Value.slice iao iA.length iac) iA.length (strM iA)) := own_on8 HOaIw7.out bb
  have HObF8 : Hid (W8.ownsRow U3 9 1 (Value.slice fbo fB.length fbc) fB.length (strM fB)) := own_on8 HObFw7.out bb
  have HObI8 : Hid (W8.ownsRow U3 9 1 (Value.slice ibo iB.length ibc) iB.length (strM iB)) := own_on8 HObIw7.out bb
  have HW78 : Hid (W7.heap.size ≤ W8.heap.size) := Nat.le_trans HW77.out bb.size
  clear bb
  have bxb := HK8.out.box (v3.heap.size, (Value.slice fbo fB.length fbc), (Value.slice ibo iB.length ibc), tB) (by simp)
  have cb0 := cell_rowK bxb 0 _ rfl
  have cb1 := cell_rowK bxb 1 _ rfl
  have cb2 := cell_rowK bxb 2 _ rfl
  clear bxb
  have bxy := HK8.out.box (v7.heap.size, (Value.slice fyo fB.length fyc), (Value.slice iyo iB.length iyc), tB) (by simp)
  have cy0 := cell_rowK bxy 0 _ rfl
  have cy1 := cell_rowK bxy 1 _ rfl
  have cy2 := cell_rowK bxy 2 _ rfl
  clear bxy
  go_wp2_with fail
  refine (HAL.out _ _ _ _ _ fB iB _ HLb.out.1 HLb.out.2 (RowR.ofOwn HObF8.out (Nat.le_refl _)).1 (HK8.out.row (U7, v7.heap.size, (Value.slice fyo fB.length fyc), fB) (by simp)).1 (RowR.ofOwn HObI8.out (Nat.le_refl _)).1 (HK8.out.row (U7, v7.heap.size, (Value.slice iyo iB.length iyc), iB) (by simp)).1).mono ?_
  rintro e W9 ⟨rfl, bb⟩
  clear cb0 cb1 cb2 cy0 cy1 cy2
  have HK9 : Hid (KN w [(v7.heap.size, (Value.slice fyo fB.length fyc), (Value.slice iyo iB.length iyc), tB), (v6.heap.size, (Value.slice fxo fA.length fxc), (Value.slice ixo iA.length ixc), tA), (v5.heap.size, (Value.slice fzo fA.length fzc), (Value.slice izo iA.length izc), tA), (v4.heap.size, (Value.slice fto fB.length ftc), (Value.slice ito iB.length itc), tB), (v3.heap.size, (Value.slice fbo fB.length fbc), (Value.slice ibo iB.length ibc), tB), (v2.heap.size, (Value.slice fco fA.length fcc), (Value.slice ico iA.length icc), tA), (v1.heap.size, (Value.slice fao fA.length fac), (Value.slice iao iA.length iac), tA)] [(U7, v7.heap.size, (Value.slice fyo fB.length fyc), fB), (U7, v7.heap.size, (Value.slice iyo iB.length iyc), iB), (U6, v6.heap.size, (Value.slice fxo fA.length fxc), fA), (U6, v6.heap.size, (Value.slice ixo iA.length ixc), iA), (U5, v5.heap.size, (Value.slice fzo fA.length fzc), fA), (U5, v5.heap.size, (Value.slice izo iA.length izc), iA), (U4, v4.heap.size, (Value.slice fto fB.length ftc), fB), (U4, v4.heap.size, (Value.slice ito iB.length itc), iB), (U2, v2.heap.size, (Value.slice fco fA.length fcc), fA), (U2, v2.heap.size, (Value.slice ico iA.length icc), iA)] W9) := HK8.out.on bb
  have HOaF9 : Hid (W9.ownsRow U1 9 1 (Value.slice fao fA.length fac) fA.length (strM fA)) := own_on8 HOaF8.out bb
  have HOaI9 : Hid (W9.ownsRow U1 9 1 (Value.slice iao iA.length iac) iA.length (strM iA)) := own_on8 HOaI8.out bb
  have HObF9 : Hid (W9.ownsRow U3 9 1 (Value.slice fbo fB.length fbc) fB.length (strM fB)) := own_on8 HObF8.out bb
  have HObI9 : Hid (W9.ownsRow U3 9 1 (Value.slice ibo iB.length ibc) iB.length (strM iB)) := own_on8 HObI8.out bb
  have HW79 : Hid (W7.heap.size ≤ W9.heap.size) := Nat.le_trans HW78.out bb.size
  clear bb
  have bxa := HK9.out.box (v1.heap.size, (Value.slice fao fA.length fac), (Value.slice iao iA.length iac), tA) (by simp)
  have ca0 := cell_rowK bxa 0 _ rfl
  have ca1 := cell_rowK bxa 1 _ rfl
  have ca2 := cell_rowK bxa 2 _ rfl
  clear bxa
  go_wp2_with fail
  refine (mark8_c _ fA ⟨#[111, 110, 101]⟩ _ U1 HOaF9.out (by have := HS.out; have := HK9.out.low.size; have := HW79.out; omega) (by have := HLa.out; omega) (by decide)).mono ?_
  rintro e W10 ⟨rfl, lone, hlone, hmone, hoone, hgone⟩
  clear ca0 ca1 ca2
  have HK10 : Hid (KN w [(v7.heap.size, (Value.slice fyo fB.length fyc), (Value.slice iyo iB.length iyc), tB), (v6.heap.size, (Value.slice fxo fA.length fxc), (Value.slice ixo iA.length ixc), tA), (v5.heap.size, (Value.slice fzo fA.length fzc), (Value.slice izo iA.length izc), tA), (v4.heap.size, (Value.slice fto fB.length ftc), (Value.slice ito iB.length itc), tB), (v3.heap.size, (Value.slice fbo fB.length fbc), (Value.slice ibo iB.length ibc), tB), (v2.heap.size, (Value.slice fco fA.length fcc), (Value.slice ico iA.length icc), tA), (v1.heap.size, (Value.slice fao fA.length fac), (Value.slice iao iA.length iac), tA)] [(U7, v7.heap.size, (Value.slice fyo fB.length fyc), fB), (U7, v7.heap.size, (Value.slice iyo iB.length iyc), iB), (U6, v6.heap.size, (Value.slice fxo fA.length fxc), fA), (U6, v6.heap.size, (Value.slice ixo iA.length ixc), iA), (U5, v5.heap.size, (Value.slice fzo fA.length fzc), fA), (U5, v5.heap.size, (Value.slice izo iA.length izc), iA), (U4, v4.heap.size, (Value.slice fto fB.length ftc), fB), (U4, v4.heap.size, (Value.slice ito iB.length itc), iB), (U2, v2.heap.size, (Value.slice fco fA.length fcc), fA), (U2, v2.heap.size, (Value.slice ico iA.length icc), iA)] W10) := HK9.out.grown hgone (fun g hg' => by have q1 := Halt.out.1 g hg'; have q2 := HS.out; omega) (fun g hg' q hq => by
      have q1 := Halt.out.1 g hg'
      have q2 := HS.out
      rcases List.mem_cons.1 hq with rfl | hq
      · show _ ≠ g; omega
      · skip
        rcases List.mem_cons.1 hq with rfl | hq
        · show _ ≠ g; omega
        · skip
          rcases List.mem_cons.1 hq with rfl | hq
          · show _ ≠ g; omega
          · skip
            rcases List.mem_cons.1 hq with rfl | hq
            · show _ ≠ g; omega
            · skip
              rcases List.mem_cons.1 hq with rfl | hq
              · show _ ≠ g; omega
              · skip
                rcases List.mem_cons.1 hq with rfl | hq
                · show _ ≠ g; omega
                · skip
                  rcases List.mem_cons.1 hq with rfl | hq
                  · show _ ≠ g; omega
                  · skip
                    cases hq) (fun g hg' q hq => by
      have q1 := Halt.out.1 g hg'
      have q2 := HS.out
      rcases List.mem_cons.1 hq with rfl | hq
      · dsimp only; omega
      · skip
        rcases List.mem_cons.1 hq with rfl | hq
        · dsimp only; omega
        · skip
          rcases List.mem_cons.1 hq with rfl | hq
          · dsimp only; omega
          · skip
            rcases List.mem_cons.1 hq with rfl | hq
            · dsimp only; omega
            · skip
              rcases List.mem_cons.1 hq with rfl | hq
              · dsimp only; omega
              · skip
                rcases List.mem_cons.1 hq with rfl | hq
                · dsimp only; omega
                · skip
                  rcases List.mem_cons.1 hq with rfl | hq
                  · dsimp only; omega
                  · skip
                    rcases List.mem_cons.1 hq with rfl | hq
                    · dsimp only; omega
                    · skip
                      rcases List.mem_cons.1 hq with rfl | hq
                      · dsimp only; omega
                      · skip
                        rcases List.mem_cons.1 hq with rfl | hq
                        · dsimp only; omega
                        · skip
                          cases hq)
  have HOaI10 : Hid (W10.ownsRow U1 9 1 (Value.slice iao iA.length iac) iA.length (strM iA)) := kept8 HOaI9.out hgone (fun g h1 h2 => Hane.out g h2 h1)
  have HObF10 : Hid (W10.ownsRow U3 9 1 (Value.slice fbo fB.length fbc) fB.length (strM fB)) := kept8 HObF9.out hgone (fun g h1 h2 => by have q1 := Hblt.out.1 g h1; have q2 := Halt.out.1 g h2; have q3 := HS.out; omega)
  have HObI10 : Hid (W10.ownsRow U3 9 1 (Value.slice ibo iB.length ibc) iB.length (strM iB)) := kept8 HObI9.out hgone (fun g h1 h2 => by have q1 := Hblt.out.2 g h1; have q2 := Halt.out.1 g h2; have q3 := HS.out; omega)
  have HOaF10 : Hid (W10.ownsRow U1 9 1 (Value.slice fao fA.length fac) fA.length (strM lone)) := hoone
  have HMone : Hid (lone.length = fA.length ∧ Marks ⟨#[111, 110, 101]⟩ lone) := ⟨hlone, hmone⟩
  have HW710 : Hid (W7.heap.size ≤ W10.heap.size) := Nat.le_trans HW79.out hgone.size
  clear hlone hmone hoone hgone
  have bxa := HK10.out.box (v1.heap.size, (Value.slice fao fA.length fac), (Value.slice iao iA.length iac), tA) (by simp)
  have ca0 := cell_rowK bxa 0 _ rfl
  have ca1 := cell_rowK bxa 1 _ rfl
  have ca2 := cell_rowK bxa 2 _ rfl
  clear bxa
  have bxx := HK10.out.box (v6.heap.size, (Value.slice fxo fA.length fxc), (Value.slice ixo iA.length ixc), tA) (by simp)
  have cx0 := cell_rowK bxx 0 _ rfl
  have cx1 := cell_rowK bxx 1 _ rfl
  have cx2 := cell_rowK bxx 2 _ rfl
  clear bxx
  go_wp2_with fail
  refine (HSM.out _ _ iA _ HLa.out.2 (RowR.ofOwn HOaI10.out (Nat.le_refl _)).1 (HK10.out.row (U6, v6.heap.size, (Value.slice ixo iA.length ixc), iA) (by simp)).1).mono ?_
  rintro e W11 ⟨rfl, dn, hw⟩
  have bb : Below W10.heap.size W10 W11 := (by rw [hw]; exact below_drew8 (Below.refl _ _) _)
  clear ca0 ca1 ca2 cx0 cx1 cx2
  have HK11 : Hid (KN w [(v7.heap.size, (Value.slice fyo fB.length fyc), (Value.slice iyo iB.length iyc), tB), (v6.heap.size, (Value.slice fxo fA.length fxc), (Value.slice ixo iA.length ixc), tA), (v5.heap.size, (Value.slice fzo fA.length fzc), (Value.slice izo iA.length izc), tA), (v4.heap.size, (Value.slice fto fB.length ftc), (Value.slice ito iB.length itc), tB), (v3.heap.size, (Value.slice fbo fB.length fbc), (Value.slice ibo iB.length ibc), tB), (v2.heap.size, (Value.slice fco fA.length fcc), (Value.slice ico iA.length icc), tA), (v1.heap.size, (Value.slice fao fA.length fac), (Value.slice iao iA.length iac), tA)] [(U7, v7.heap.size, (Value.slice fyo fB.length fyc), fB), (U7, v7.heap.size, (Value.slice iyo iB.length iyc), iB), (U6, v6.heap.size, (Value.slice fxo fA.length fxc), fA), (U6, v6.heap.size, (Value.slice ixo iA.length ixc), iA), (U5, v5.heap.size, (Value.slice fzo fA.length fzc), fA), (U5, v5.heap.size, (Value.slice izo iA.length izc), iA), (U4, v4.heap.size, (Value.slice fto fB.length ftc), fB), (U4, v4.heap.size, (Value.slice ito iB.length itc), iB), (U2, v2.heap.size, (Value.slice fco fA.length fcc), fA), (U2, v2.heap.size, (Value.slice ico iA.length icc), iA)] W11) := HK10.out.on bb
  have HOaF11 : Hid (W11.ownsRow U1 9 1 (Value.slice fao fA.length fac) fA.length (strM lone)) := own_on8 HOaF10.out bb
  have HOaI11 : Hid (W11.ownsRow U1 9 1 (Value.slice iao iA.length iac) iA.length (strM iA)) := own_on8 HOaI10.out bb
  have HObF11 : Hid (W11.ownsRow U3 9 1 (Value.slice fbo fB.length fbc) fB.length (strM fB)) := own_on8 HObF10.out bb
  have HObI11 : Hid (W11.ownsRow U3 9 1 (Value.slice ibo iB.length ibc) iB.length (strM iB)) := own_on8 HObI10.out bb
  have HW711 : Hid (W7.heap.size ≤ W11.heap.size) := Nat.le_trans HW710.out bb.size
  clear bb hw
  have bxb := HK11.out.box (v3.heap.size, (Value.slice fbo fB.length fbc), (Value.slice ibo iB.length ibc), tB) (by simp)
  have cb0 := cell_rowK bxb 0 _ rfl
  have cb1 := cell_rowK bxb 1 _ rfl
  have cb2 := cell_rowK bxb 2 _ rfl
  clear bxb
  have bxy := HK11.out.box (v7.heap.size, (Value.slice fyo fB.length fyc), (Value.slice iyo iB.length iyc), tB) (by simp)
  have cy0 := cell_rowK bxy 0 _ rfl
  have cy1 := cell_rowK bxy 1 _ rfl
  have cy2 := cell_rowK bxy 2 _ rfl
  clear bxy
  go_wp2_with fail
  refine (HAL.out _ _ _ _ _ fB iB _ HLb.out.1 HLb.out.2 (RowR.ofOwn HObF11.out (Nat.le_refl _)).1 (HK11.out.row (U7, v7.heap.size, (Value.slice fyo fB.length fyc), fB) (by simp)).1 (RowR.ofOwn HObI11.out (Nat.le_refl _)).1 (HK11.out.row (U7, v7.heap.size, (Value.slice iyo iB.length iyc), iB) (by simp)).1).mono ?_
  rintro e W12 ⟨rfl, bb⟩
  clear cb0 cb1 cb2 cy0 cy1 cy2
  have HK12 : Hid (KN w [(v7.heap.size, (Value.slice fyo fB.length fyc), (Value.slice iyo iB.length iyc), tB), (v6.heap.size, (Value.slice fxo fA.length fxc), (Value.slice ixo iA.length ixc), tA), (v5.heap.size, (Value.slice fzo fA.length fzc), (Value.slice izo iA.length izc), tA), (v4.heap.size, (Value.slice fto fB.length ftc), (Value.slice ito iB.length itc), tB), (v3.heap.size, (Value.slice fbo fB.length fbc), (Value.slice ibo iB.length ibc), tB), (v2.heap.size, (Value.slice fco fA.length fcc), (Value.slice ico iA.length icc), tA), (v1.heap.size, (Value.slice fao fA.length fac), (Value.slice iao iA.length iac), tA)] [(U7, v7.heap.size, (Value.slice fyo fB.length fyc), fB), (U7, v7.heap.size, (Value.slice iyo iB.length iyc), iB), (U6, v6.heap.size, (Value.slice fxo fA.length fxc), fA), (U6, v6.heap.size, (Value.slice ixo iA.length ixc), iA), (U5, v5.heap.size, (Value.slice fzo fA.length fzc), fA), (U5, v5.heap.size, (Value.slice izo iA.length izc), iA), (U4, v4.heap.size, (Value.slice fto fB.length ftc), fB), (U4, v4.heap.size, (Value.slice ito iB.length itc), iB), (U2, v2.heap.size, (Value.slice fco fA.length fcc), fA), (U2, v2.heap.size, (Value.slice ico iA.length icc), iA)] W12) := HK11.out.on bb
  have HOaF12 : Hid (W12.ownsRow U1 9 1 (Value.slice fao fA.length fac) fA.length (strM lone)) := own_on8 HOaF11.out bb
  have HOaI12 : Hid (W12.ownsRow U1 9 1 (Value.slice iao iA.length iac) iA.length (strM iA)) := own_on8 HOaI11.out bb
  have HObF12 : Hid (W12.ownsRow U3 9 1 (Value.slice fbo fB.length fbc) fB.length (strM fB)) := own_on8 HObF11.out bb
  have HObI12 : Hid (W12.ownsRow U3 9 1 (Value.slice ibo iB.length ibc) iB.length (strM iB)) := own_on8 HObI11.out bb
  have HW712 : Hid (W7.heap.size ≤ W12.heap.size) := Nat.le_trans HW711.out bb.size
  clear bb
  have bxc := HK12.out.box (v2.heap.size, (Value.slice fco fA.length fcc), (Value.slice ico iA.length icc), tA) (by simp)
  have cc0 := cell_rowK bxc 0 _ rfl
  have cc1 := cell_rowK bxc 1 _ rfl
  have cc2 := cell_rowK bxc 2 _ rfl
  clear bxc
  have bxx := HK12.out.box (v6.heap.size, (Value.slice fxo fA.length fxc), (Value.slice ixo iA.length ixc), tA) (by simp)
  have cx0 := cell_rowK bxx 0 _ rfl
  have cx1 := cell_rowK bxx 1 _ rfl
  have cx2 := cell_rowK bxx 2 _ rfl
  clear bxx
  go_wp2_with fail
  refine (HAL.out _ _ _ _ _ fA iA _ HLa.out.1 HLa.out.2 (HK12.out.row (U2, v2.heap.size, (Value.slice fco fA.length fcc), fA) (by simp)).1 (HK12.out.row (U6, v6.heap.size, (Value.slice fxo fA.length fxc), fA) (by simp)).1 (HK12.out.row (U2, v2.heap.size, (Value.slice ico iA.length icc), iA) (by simp)).1 (HK12.out.row (U6, v6.heap.size, (Value.slice ixo iA.length ixc), iA) (by simp)).1).mono ?_
  rintro e W13 ⟨rfl, bb⟩
  clear cc0 cc1 cc2 cx0 cx1 cx2
  have HK13 : Hid (KN w [(v7.heap.size, (Value.slice fyo fB.length fyc), (Value.slice iyo iB.length iyc), tB), (v6.heap.size, (Value.slice fxo fA.length fxc), (Value.slice ixo iA.length ixc), tA), (v5.heap.size, (Value.slice fzo fA.length fzc), (Value.slice izo iA.length izc), tA), (v4.heap.size, (Value.slice fto fB.length ftc), (Value.slice ito iB.length itc), tB), (v3.heap.size, (Value.slice fbo fB.length fbc), (Value.slice ibo iB.length ibc), tB), (v2.heap.size, (Value.slice fco fA.length fcc), (Value.slice ico iA.length icc), tA), (v1.heap.size, (Value.slice fao fA.length fac), (Value.slice iao iA.length iac), tA)] [(U7, v7.heap.size, (Value.slice fyo fB.length fyc), fB), (U7, v7.heap.size, (Value.slice iyo iB.length iyc), iB), (U6, v6.heap.size, (Value.slice fxo fA.length fxc), fA), (U6, v6.heap.size, (Value.slice ixo iA.length ixc), iA), (U5, v5.heap.size, (Value.slice fzo fA.length fzc), fA), (U5, v5.heap.size, (Value.slice izo iA.length izc), iA), (U4, v4.heap.size, (Value.slice fto fB.length ftc), fB), (U4, v4.heap.size, (Value.slice ito iB.length itc), iB), (U2, v2.heap.size, (Value.slice fco fA.length fcc), fA), (U2, v2.heap.size, (Value.slice ico iA.length icc), iA)] W13) := HK12.out.on bb
  have HOaF13 : Hid (W13.ownsRow U1 9 1 (Value.slice fao fA.length fac) fA.length (strM lone)) := own_on8 HOaF12.out bb
  have HOaI13 : Hid (W13.ownsRow U1 9 1 (Value.slice iao iA.length iac) iA.length (strM iA)) := own_on8 HOaI12.out bb
  have HObF13 : Hid (W13.ownsRow U3 9 1 (Value.slice fbo fB.length fbc) fB.length (strM fB)) := own_on8 HObF12.out bb
  have HObI13 : Hid (W13.ownsRow U3 9 1 (Value.slice ibo iB.length ibc) iB.length (strM iB)) := own_on8 HObI12.out bb
  have HW713 : Hid (W7.heap.size ≤ W13.heap.size) := Nat.le_trans HW712.out bb.size
  clear bb
  have bxt := HK13.out.box (v4.heap.size, (Value.slice fto fB.length ftc), (Value.slice ito iB.length itc), tB) (by simp)
  have ct0 := cell_rowK bxt 0 _ rfl
  have ct1 := cell_rowK bxt 1 _ rfl
  have ct2 := cell_rowK bxt 2 _ rfl
  clear bxt
  have bxy := HK13.out.box (v7.heap.size, (Value.slice fyo fB.length fyc), (Value.slice iyo iB.length iyc), tB) (by simp)
  have cy0 := cell_rowK bxy 0 _ rfl
  have cy1 := cell_rowK bxy 1 _ rfl
  have cy2 := cell_rowK bxy 2 _ rfl
  clear bxy
  go_wp2_with fail
  refine (HAL.out _ _ _ _ _ fB iB _ HLb.out.1 HLb.out.2 (HK13.out.row (U4, v4.heap.size, (Value.slice fto fB.length ftc), fB) (by simp)).1 (HK13.out.row (U7, v7.heap.size, (Value.slice fyo fB.length fyc), fB) (by simp)).1 (HK13.out.row (U4, v4.heap.size, (Value.slice ito iB.length itc), iB) (by simp)).1 (HK13.out.row (U7, v7.heap.size, (Value.slice iyo iB.length iyc), iB) (by simp)).1).mono ?_
  rintro e W14 ⟨rfl, bb⟩
  clear ct0 ct1 ct2 cy0 cy1 cy2
  have HK14 : Hid (KN w [(v7.heap.size, (Value.slice fyo fB.length fyc), (Value.slice iyo iB.length iyc), tB), (v6.heap.size, (Value.slice fxo fA.length fxc), (Value.slice ixo iA.length ixc), tA), (v5.heap.size, (Value.slice fzo fA.length fzc), (Value.slice izo iA.length izc), tA), (v4.heap.size, (Value.slice fto fB.length ftc), (Value.slice ito iB.length itc), tB), (v3.heap.size, (Value.slice fbo fB.length fbc), (Value.slice ibo iB.length ibc), tB), (v2.heap.size, (Value.slice fco fA.length fcc), (Value.slice ico iA.length icc), tA), (v1.heap.size, (Value.slice fao fA.length fac), (Value.slice iao iA.length iac), tA)] [(U7, v7.heap.size, (Value.slice fyo fB.length fyc), fB), (U7, v7.heap.size, (Value.slice iyo iB.length iyc), iB), (U6, v6.heap.size, (Value.slice fxo fA.length fxc), fA), (U6, v6.heap.size, (Value.slice ixo iA.length ixc), iA), (U5, v5.heap.size, (Value.slice fzo fA.length fzc), fA), (U5, v5.heap.size, (Value.slice izo iA.length izc), iA), (U4, v4.heap.size, (Value.slice fto fB.length ftc), fB), (U4, v4.heap.size, (Value.slice ito iB.length itc), iB), (U2, v2.heap.size, (Value.slice fco fA.length fcc), fA), (U2, v2.heap.size, (Value.slice ico iA.length icc), iA)] W14) := HK13.out.on bb
  have HOaF14 : Hid (W14.ownsRow U1 9 1 (Value.slice fao fA.length fac) fA.length (strM lone)) := own_on8 HOaF13.out bb
  have HOaI14 : Hid (W14.ownsRow U1 9 1 (Value.slice iao iA.length iac) iA.length (strM iA)) := own_on8 HOaI13.out bb
  have HObF14 : Hid (W14.ownsRow U3 9 1 (Value.slice fbo fB.length fbc) fB.length (strM fB)) := own_on8 HObF13.out bb
  have HObI14 : Hid (W14.ownsRow U3 9 1 (Value.slice ibo iB.length ibc) iB.length (strM iB)) := own_on8 HObI13.out bb
  have HW714 : Hid (W7.heap.size ≤ W14.heap.size) := Nat.le_trans HW713.out bb.size
  clear bb
  have bxz := HK14.out.box (v5.heap.size, (Value.slice fzo fA.length fzc), (Value.slice izo iA.length izc), tA) (by simp)
  have cz0 := cell_rowK bxz 0 _ rfl
  have cz1 := cell_rowK bxz 1 _ rfl
  have cz2 := cell_rowK bxz 2 _ rfl
  clear bxz
  have bxx := HK14.out.box (v6.heap.size, (Value.slice fxo fA.length fxc), (Value.slice ixo iA.length ixc), tA) (by simp)
  have cx0 := cell_rowK bxx 0 _ rfl
  have cx1 := cell_rowK bxx 1 _ rfl
  have cx2 := cell_rowK bxx 2 _ rfl
  clear bxx
  go_wp2_with fail
  refine (HAL.out _ _ _ _ _ fA iA _ HLa.out.1 HLa.out.2 (HK14.out.row (U5, v5.heap.size, (Value.slice fzo fA.length fzc), fA) (by simp)).1 (HK14.out.row (U6, v6.heap.size, (Value.slice fxo fA.length fxc), fA) (by simp)).1 (HK14.out.row (U5, v5.heap.size, (Value.slice izo iA.length izc), iA) (by simp)).1 (HK14.out.row (U6, v6.heap.size, (Value.slice ixo iA.length ixc), iA) (by simp)).1).mono ?_
  rintro e W15 ⟨rfl, bb⟩
  clear cz0 cz1 cz2 cx0 cx1 cx2
  have HK15 : Hid (KN w [(v7.heap.size, (Value.slice fyo fB.length fyc), (Value.slice iyo iB.length iyc), tB), (v6.heap.size, (Value.slice fxo fA.length fxc), (Value.slice ixo iA.length ixc), tA), (v5.heap.size, (Value.slice fzo fA.length fzc), (Value.slice izo iA.length izc), tA), (v4.heap.size, (Value.slice fto fB.length ftc), (Value.slice ito iB.length itc), tB), (v3.heap.size, (Value.slice fbo fB.length fbc), (Value.slice ibo iB.length ibc), tB), (v2.heap.size, (Value.slice fco fA.length fcc), (Value.slice ico iA.length icc), tA), (v1.heap.size, (Value.slice fao fA.length fac), (Value.slice iao iA.length iac), tA)] [(U7, v7.heap.size, (Value.slice fyo fB.length fyc), fB), (U7, v7.heap.size, (Value.slice iyo iB.length iyc), iB), (U6, v6.heap.size, (Value.slice fxo fA.length fxc), fA), (U6, v6.heap.size, (Value.slice ixo iA.length ixc), iA), (U5, v5.heap.size, (Value.slice fzo fA.length fzc), fA), (U5, v5.heap.size, (Value.slice izo iA.length izc), iA), (U4, v4.heap.size, (Value.slice fto fB.length ftc), fB), (U4, v4.heap.size, (Value.slice ito iB.length itc), iB), (U2, v2.heap.size, (Value.slice fco fA.length fcc), fA), (U2, v2.heap.size, (Value.slice ico iA.length icc), iA)] W15) := HK14.out.on bb
  have HOaF15 : Hid (W15.ownsRow U1 9 1 (Value.slice fao fA.length fac) fA.length (strM lone)) := own_on8 HOaF14.out bb
  have HOaI15 : Hid (W15.ownsRow U1 9 1 (Value.slice iao iA.length iac) iA.length (strM iA)) := own_on8 HOaI14.out bb
  have HObF15 : Hid (W15.ownsRow U3 9 1 (Value.slice fbo fB.length fbc) fB.length (strM fB)) := own_on8 HObF14.out bb
  have HObI15 : Hid (W15.ownsRow U3 9 1 (Value.slice ibo iB.length ibc) iB.length (strM iB)) := own_on8 HObI14.out bb
  have HW715 : Hid (W7.heap.size ≤ W15.heap.size) := Nat.le_trans HW714.out bb.size
  clear bb
  have bxa := HK15.out.box (v1.heap.size, (Value.slice fao fA.length fac), (Value.slice iao iA.length iac), tA) (by simp)
  have ca0 := cell_rowK bxa 0 _ rfl
  have ca1 := cell_rowK bxa 1 _ rfl
  have ca2 := cell_rowK bxa 2 _ rfl
  clear bxa
  go_wp2_with fail
  refine (mark8_c _ iA ⟨#[116, 119, 111]⟩ _ U1 HOaI15.out (by have := HS.out; have := HK15.out.low.size; have := HW715.out; omega) (by have := HLa.out; omega) (by decide)).mono ?_
  rintro e W16 ⟨rfl, ltwo, hltwo, hmtwo, hotwo, hgtwo⟩
  clear ca0 ca1 ca2
  have HK16 : Hid (KN w [(v7.heap.size, (Value.slice fyo fB.length fyc), (Value.slice iyo iB.length iyc), tB), (v6.heap.size, (Value.slice fxo fA.length fxc), (Value.slice ixo iA.length ixc), tA), (v5.heap.size, (Value.slice fzo fA.length fzc), (Value.slice izo iA.length izc), tA), (v4.heap.size, (Value.slice fto fB.length ftc), (Value.slice ito iB.length itc), tB), (v3.heap.size, (Value.slice fbo fB.length fbc), (Value.slice ibo iB.length ibc), tB), (v2.heap.size, (Value.slice fco fA.length fcc), (Value.slice ico iA.length icc), tA), (v1.heap.size, (Value.slice fao fA.length fac), (Value.slice iao iA.length iac), tA)] [(U7, v7.heap.size, (Value.slice fyo fB.length fyc), fB), (U7, v7.heap.size, (Value.slice iyo iB.length iyc), iB), (U6, v6.heap.size, (Value.slice fxo fA.length fxc), fA), (U6, v6.heap.size, (Value.slice ixo iA.length ixc), iA), (U5, v5.heap.size, (Value.slice fzo fA.length fzc), fA), (U5, v5.heap.size, (Value.slice izo iA.length izc), iA), (U4, v4.heap.size, (Value.slice fto fB.length ftc), fB), (U4, v4.heap.size, (Value.slice ito iB.length itc), iB), (U2, v2.heap.size, (Value.slice fco fA.length fcc), fA), (U2, v2.heap.size, (Value.slice ico iA.length icc), iA)] W16) := HK15.out.grown hgtwo (fun g hg' => by have q1 := Halt.out.2 g hg'; have q2 := HS.out; omega) (fun g hg' q hq => by
      have q1 := Halt.out.2 g hg'
      have q2 := HS.out
      rcases List.mem_cons.1 hq with rfl | hq
      · show _ ≠ g; omega
      · skip
        rcases List.mem_cons.1 hq with rfl | hq
        · show _ ≠ g; omega
        · skip
          rcases List.mem_cons.1 hq with rfl | hq
          · show _ ≠ g; omega
          · skip
            rcases List.mem_cons.1 hq with rfl | hq
            · show _ ≠ g; omega
            · skip
              rcases List.mem_cons.1 hq with rfl | hq
              · show _ ≠ g; omega
              · skip
                rcases List.mem_cons.1 hq with rfl | hq
                · show _ ≠ g; omega
                · skip
                  rcases List.mem_cons.1 hq with rfl | hq
                  · show _ ≠ g; omega
                  · skip
                    cases hq) (fun g hg' q hq => by
      have q1 := Halt.out.2 g hg'
      have q2 := HS.out
      rcases List.mem_cons.1 hq with rfl | hq
      · dsimp only; omega
      · skip
        rcases List.mem_cons.1 hq with rfl | hq
        · dsimp only; omega
        · skip
          rcases List.mem_cons.1 hq with rfl | hq
          · dsimp only; omega
          · skip
            rcases List.mem_cons.1 hq with rfl | hq
            · dsimp only; omega
            · skip
              rcases List.mem_cons.1 hq with rfl | hq
              · dsimp only; omega
              · skip
                rcases List.mem_cons.1 hq with rfl | hq
                · dsimp only; omega
                · skip
                  rcases List.mem_cons.1 hq with rfl | hq
                  · dsimp only; omega
                  · skip
                    rcases List.mem_cons.1 hq with rfl | hq
                    · dsimp only; omega
                    · skip
                      rcases List.mem_cons.1 hq with rfl | hq
                      · dsimp only; omega
                      · skip
                        rcases List.mem_cons.1 hq with rfl | hq
                        · dsimp only; omega
                        · skip
                          cases hq)
  have HOaF16 : Hid (W16.ownsRow U1 9 1 (Value.slice fao fA.length fac) fA.length (strM lone)) := kept8 HOaF15.out hgtwo (fun g h1 h2 => Hane.out g h1 h2)
  have HObF16 : Hid (W16.ownsRow U3 9 1 (Value.slice fbo fB.length fbc) fB.length (strM fB)) := kept8 HObF15.out hgtwo (fun g h1 h2 => by have q1 := Hblt.out.1 g h1; have q2 := Halt.out.2 g h2; have q3 := HS.out; omega)
  have HObI16 : Hid (W16.ownsRow U3 9 1 (Value.slice ibo iB.length ibc) iB.length (strM iB)) := kept8 HObI15.out hgtwo (fun g h1 h2 => by have q1 := Hblt.out.2 g h1; have q2 := Halt.out.2 g h2; have q3 := HS.out; omega)
  have HOaI16 : Hid (W16.ownsRow U1 9 1 (Value.slice iao iA.length iac) iA.length (strM ltwo)) := hotwo
  have HMtwo : Hid (ltwo.length = iA.length ∧ Marks ⟨#[116, 119, 111]⟩ ltwo) := ⟨hltwo, hmtwo⟩
  have HW716 : Hid (W7.heap.size ≤ W16.heap.size) := Nat.le_trans HW715.out hgtwo.size
  clear hltwo hmtwo hotwo hgtwo
  have bxb := HK16.out.box (v3.heap.size, (Value.slice fbo fB.length fbc), (Value.slice ibo iB.length ibc), tB) (by simp)
  have cb0 := cell_rowK bxb 0 _ rfl
  have cb1 := cell_rowK bxb 1 _ rfl
  have cb2 := cell_rowK bxb 2 _ rfl
  clear bxb
  go_wp2_with fail
  refine (mark8_c _ iB ⟨#[116, 104, 114, 101, 101]⟩ _ U3 HObI16.out (by have := HS.out; have := HK16.out.low.size; have := HW716.out; omega) (by have := HLb.out; omega) (by decide)).mono ?_
  rintro e W17 ⟨rfl, lthree, hlthree, hmthree, hothree, hgthree⟩
  clear cb0 cb1 cb2
  have HK17 : Hid (KN w [(v7.heap.size, (Value.slice fyo fB.length fyc), (Value.slice iyo iB.length iyc), tB), (v6.heap.size, (Value.slice fxo fA.length fxc), (Value.slice ixo iA.length ixc), tA), (v5.heap.size, (Value.slice fzo fA.length fzc), (Value.slice izo iA.length izc), tA), (v4.heap.size, (Value.slice fto fB.length ftc), (Value.slice ito iB.length itc), tB), (v3.heap.size, (Value.slice fbo fB.length fbc), (Value.slice ibo iB.length ibc), tB), (v2.heap.size, (Value.slice fco fA.length fcc), (Value.slice ico iA.length icc), tA), (v1.heap.size, (Value.slice fao fA.length fac), (Value.slice iao iA.length iac), tA)] [(U7, v7.heap.size, (Value.slice fyo fB.length fyc), fB), (U7, v7.heap.size, (Value.slice iyo iB.length iyc), iB), (U6, v6.heap.size, (Value.slice fxo fA.length fxc), fA), (U6, v6.heap.size, (Value.slice ixo iA.length ixc), iA), (U5, v5.heap.size, (Value.slice fzo fA.length fzc), fA), (U5, v5.heap.size, (Value.slice izo iA.length izc), iA), (U4, v4.heap.size, (Value.slice fto fB.length ftc), fB), (U4, v4.heap.size, (Value.slice ito iB.length itc), iB), (U2, v2.heap.size, (Value.slice fco fA.length fcc), fA), (U2, v2.heap.size, (Value.slice ico iA.length icc), iA)] W17) := HK16.out.grown hgthree (fun g hg' => by have q1 := Hblt.out.2 g hg'; have q2 := HS.out; omega) (fun g hg' q hq => by
      have q1 := Hblt.out.2 g hg'
      have q2 := HS.out
      rcases List.mem_cons.1 hq with rfl | hq
      · show _ ≠ g; omega
      · skip
        rcases List.mem_cons.1 hq with rfl | hq
        · show _ ≠ g; omega
        · skip
          rcases List.mem_cons.1 hq with rfl | hq
          · show _ ≠ g; omega
          · skip
            rcases List.mem_cons.1 hq with rfl | hq
            · show _ ≠ g; omega
            · skip
              rcases List.mem_cons.1 hq with rfl | hq
              · show _ ≠ g; omega
              · skip
                rcases List.mem_cons.1 hq with rfl | hq
                · show _ ≠ g; omega
                · skip
                  rcases List.mem_cons.1 hq with rfl | hq
                  · show _ ≠ g; omega
                  · skip
                    cases hq) (fun g hg' q hq => by
      have q1 := Hblt.out.2 g hg'
      have q2 := HS.out
      rcases List.mem_cons.1 hq with rfl | hq
      · dsimp only; omega
      · skip
        rcases List.mem_cons.1 hq with rfl | hq
        · dsimp only; omega
        · skip
          rcases List.mem_cons.1 hq with rfl | hq
          · dsimp only; omega
          · skip
            rcases List.mem_cons.1 hq with rfl | hq
            · dsimp only; omega
            · skip
              rcases List.mem_cons.1 hq with rfl | hq
              · dsimp only; omega
              · skip
                rcases List.mem_cons.1 hq with rfl | hq
                · dsimp only; omega
                · skip
                  rcases List.mem_cons.1 hq with rfl | hq
                  · dsimp only; omega
                  · skip
                    rcases List.mem_cons.1 hq with rfl | hq
                    · dsimp only; omega
                    · skip
                      rcases List.mem_cons.1 hq with rfl | hq
                      · dsimp only; omega
                      · skip
                        rcases List.mem_cons.1 hq with rfl | hq
                        · dsimp only; omega
                        · skip
                          cases hq)
  have HOaF17 : Hid (W17.ownsRow U1 9 1 (Value.slice fao fA.length fac) fA.length (strM lone)) := kept8 HOaF16.out hgthree (fun g h1 h2 => by have q1 := Halt.out.1 g h1; have q2 := Hblt.out.2 g h2; have q3 := HS.out; omega)
  have HOaI17 : Hid (W17.ownsRow U1 9 1 (Value.slice iao iA.length iac) iA.length (strM ltwo)) := kept8 HOaI16.out hgthree (fun g h1 h2 => by have q1 := Halt.out.2 g h1; have q2 := Hblt.out.2 g h2; have q3 := HS.out; omega)
  have HObF17 : Hid (W17.ownsRow U3 9 1 (Value.slice fbo fB.length fbc) fB.length (strM fB)) := kept8 HObF16.out hgthree (fun g h1 h2 => Hbne.out g h1 h2)
  have HObI17 : Hid (W17.ownsRow U3 9 1 (Value.slice ibo iB.length ibc) iB.length (strM lthree)) := hothree
  have HMthree : Hid (lthree.length = iB.length ∧ Marks ⟨#[116, 104, 114, 101, 101]⟩ lthree) := ⟨hlthree, hmthree⟩
  have HW717 : Hid (W7.heap.size ≤ W17.heap.size) := Nat.le_trans HW716.out hgthree.size
  clear hlthree hmthree hothree hgthree
  have bxb := HK17.out.box (v3.heap.size, (Value.slice fbo fB.length fbc), (Value.slice ibo iB.length ibc), tB) (by simp)
  have cb0 := cell_rowK bxb 0 _ rfl
  have cb1 := cell_rowK bxb 1 _ rfl
  have cb2 := cell_rowK bxb 2 _ rfl
  clear bxb
  have bxy := HK17.out.box (v7.heap.size, (Value.slice fyo fB.length fyc), (Value.slice iyo iB.length iyc), tB) (by simp)
  have cy0 := cell_rowK bxy 0 _ rfl
  have cy1 := cell_rowK bxy 1 _ rfl
  have cy2 := cell_rowK bxy 2 _ rfl
  clear bxy
  go_wp2_with fail
  refine (HSM.out _ _ fB _ HLb.out.1 (RowR.ofOwn HObF17.out (Nat.le_refl _)).1 (HK17.out.row (U7, v7.heap.size, (Value.slice fyo fB.length fyc), fB) (by simp)).1).mono ?_
  rintro e W18 ⟨rfl, dn, hw⟩
  have bb : Below W17.heap.size W17 W18 := (by rw [hw]; exact below_drew8 (Below.refl _ _) _)
  clear cb0 cb1 cb2 cy0 cy1 cy2
  have HK18 : Hid (KN w [(v7.heap.size, (Value.slice fyo fB.length fyc), (Value.slice iyo iB.length iyc), tB), (v6.heap.size, (Value.slice fxo fA.length fxc), (Value.slice ixo iA.length ixc), tA), (v5.heap.size, (Value.slice fzo fA.length fzc), (Value.slice izo iA.length izc), tA), (v4.heap.size, (Value.slice fto fB.length ftc), (Value.slice ito iB.length itc), tB), (v3.heap.size, (Value.slice fbo fB.length fbc), (Value.slice ibo iB.length ibc), tB), (v2.heap.size, (Value.slice fco fA.length fcc), (Value.slice ico iA.length icc), tA), (v1.heap.size, (Value.slice fao fA.length fac), (Value.slice iao iA.length iac), tA)] [(U7, v7.heap.size, (Value.slice fyo fB.length fyc), fB), (U7, v7.heap.size, (Value.slice iyo iB.length iyc), iB), (U6, v6.heap.size, (Value.slice fxo fA.length fxc), fA), (U6, v6.heap.size, (Value.slice ixo iA.length ixc), iA), (U5, v5.heap.size, (Value.slice fzo fA.length fzc), fA), (U5, v5.heap.size, (Value.slice izo iA.length izc), iA), (U4, v4.heap.size, (Value.slice fto fB.length ftc), fB), (U4, v4.heap.size, (Value.slice ito iB.length itc), iB), (U2, v2.heap.size, (Value.slice fco fA.length fcc), fA), (U2, v2.heap.size, (Value.slice ico iA.length icc), iA)] W18) := HK17.out.on bb
  have HOaF18 : Hid (W18.ownsRow U1 9 1 (Value.slice fao fA.length fac) fA.length (strM lone)) := own_on8 HOaF17.out bb
  have HOaI18 : Hid (W18.ownsRow U1 9 1 (Value.slice iao iA.length iac) iA.length (strM ltwo)) := own_on8 HOaI17.out bb
  have HObF18 : Hid (W18.ownsRow U3 9 1 (Value.slice fbo fB.length fbc) fB.length (strM fB)) := own_on8 HObF17.out bb
  have HObI18 : Hid (W18.ownsRow U3 9 1 (Value.slice ibo iB.length ibc) iB.length (strM lthree)) := own_on8 HObI17.out bb
  have HW718 : Hid (W7.heap.size ≤ W18.heap.size) := Nat.le_trans HW717.out bb.size
  clear bb hw
  have bxc := HK18.out.box (v2.heap.size, (Value.slice fco fA.length fcc), (Value.slice ico iA.length icc), tA) (by simp)
  have cc0 := cell_rowK bxc 0 _ rfl
  have cc1 := cell_rowK bxc 1 _ rfl
  have cc2 := cell_rowK bxc 2 _ rfl
  clear bxc
  have bxx := HK18.out.box (v6.heap.size, (Value.slice fxo fA.length fxc), (Value.slice ixo iA.length ixc), tA) (by simp)
  have cx0 := cell_rowK bxx 0 _ rfl
  have cx1 := cell_rowK bxx 1 _ rfl
  have cx2 := cell_rowK bxx 2 _ rfl
  clear bxx
  go_wp2_with fail
  refine (HAL.out _ _ _ _ _ fA iA _ HLa.out.1 HLa.out.2 (HK18.out.row (U2, v2.heap.size, (Value.slice fco fA.length fcc), fA) (by simp)).1 (HK18.out.row (U6, v6.heap.size, (Value.slice fxo fA.length fxc), fA) (by simp)).1 (HK18.out.row (U2, v2.heap.size, (Value.slice ico iA.length icc), iA) (by simp)).1 (HK18.out.row (U6, v6.heap.size, (Value.slice ixo iA.length ixc), iA) (by simp)).1).mono ?_
  rintro e W19 ⟨rfl, bb⟩
  clear cc0 cc1 cc2 cx0 cx1 cx2
  have HK19 : Hid (KN w [(v7.heap.size, (Value.slice fyo fB.length fyc), (Value.slice iyo iB.length iyc), tB), (v6.heap.size, (Value.slice fxo fA.length fxc), (Value.slice ixo iA.length ixc), tA), (v5.heap.size, (Value.slice fzo fA.length fzc), (Value.slice izo iA.length izc), tA), (v4.heap.size, (Value.slice fto fB.length ftc), (Value.slice ito iB.length itc), tB), (v3.heap.size, (Value.slice fbo fB.length fbc), (Value.slice ibo iB.length ibc), tB), (v2.heap.size, (Value.slice fco fA.length fcc), (Value.slice ico iA.length icc), tA), (v1.heap.size, (Value.slice fao fA.length fac), (Value.slice iao iA.length iac), tA)] [(U7, v7.heap.size, (Value.slice fyo fB.length fyc), fB), (U7, v7.heap.size, (Value.slice iyo iB.length iyc), iB), (U6, v6.heap.size, (Value.slice fxo fA.length fxc), fA), (U6, v6.heap.size, (Value.slice ixo iA.length ixc), iA), (U5, v5.heap.size, (Value.slice fzo fA.length fzc), fA), (U5, v5.heap.size, (Value.slice izo iA.length izc), iA), (U4, v4.heap.size, (Value.slice fto fB.length ftc), fB), (U4, v4.heap.size, (Value.slice ito iB.length itc), iB), (U2, v2.heap.size, (Value.slice fco fA.length fcc), fA), (U2, v2.heap.size, (Value.slice ico iA.length icc), iA)] W19) := HK18.out.on bb
  have HOaF19 : Hid (W19.ownsRow U1 9 1 (Value.slice fao fA.length fac) fA.length (strM lone)) := own_on8 HOaF18.out bb
  have HOaI19 : Hid (W19.ownsRow U1 9 1 (Value.slice iao iA.length iac) iA.length (strM ltwo)) := own_on8 HOaI18.out bb
  have HObF19 : Hid (W19.ownsRow U3 9 1 (Value.slice fbo fB.length fbc) fB.length (strM fB)) := own_on8 HObF18.out bb
  have HObI19 : Hid (W19.ownsRow U3 9 1 (Value.slice ibo iB.length ibc) iB.length (strM lthree)) := own_on8 HObI18.out bb
  have HW719 : Hid (W7.heap.size ≤ W19.heap.size) := Nat.le_trans HW718.out bb.size
  clear bb
  have bxb := HK19.out.box (v3.heap.size, (Value.slice fbo fB.length fbc), (Value.slice ibo iB.length ibc), tB) (by simp)
  have cb0 := cell_rowK bxb 0 _ rfl
  have cb1 := cell_rowK bxb 1 _ rfl
  have cb2 := cell_rowK bxb 2 _ rfl
  clear bxb
  go_wp2_with fail
  refine (mark8_c _ fB ⟨#[102, 111, 117, 114]⟩ _ U3 HObF19.out (by have := HS.out; have := HK19.out.low.size; have := HW719.out; omega) (by have := HLb.out; omega) (by decide)).mono ?_
  rintro e W20 ⟨rfl, lfour, hlfour, hmfour, hofour, hgfour⟩
  clear cb0 cb1 cb2
  have HK20 : Hid (KN w [(v7.heap.size, (Value.slice fyo fB.length fyc), (Value.slice iyo iB.length iyc), tB), (v6.heap.size, (Value.slice fxo fA.length fxc), (Value.slice ixo iA.length ixc), tA), (v5.heap.size, (Value.slice fzo fA.length fzc), (Value.slice izo iA.length izc), tA), (v4.heap.size, (Value.slice fto fB.length ftc), (Value.slice ito iB.length itc), tB), (v3.heap.size, (Value.slice fbo fB.length fbc), (Value.slice ibo iB.length ibc), tB), (v2.heap.size, (Value.slice fco fA.length fcc), (Value.slice ico iA.length icc), tA), (v1.heap.size, (Value.slice fao fA.length fac), (Value.slice iao iA.length iac), tA)] [(U7, v7.heap.size, (Value.slice fyo fB.length fyc), fB), (U7, v7.heap.size, (Value.slice iyo iB.length iyc), iB), (U6, v6.heap.size, (Value.slice fxo fA.length fxc), fA), (U6, v6.heap.size, (Value.slice ixo iA.length ixc), iA), (U5, v5.heap.size, (Value.slice fzo fA.length fzc), fA), (U5, v5.heap.size, (Value.slice izo iA.length izc), iA), (U4, v4.heap.size, (Value.slice fto fB.length ftc), fB), (U4, v4.heap.size, (Value.slice ito iB.length itc), iB), (U2, v2.heap.size, (Value.slice fco fA.length fcc), fA), (U2, v2.heap.size, (Value.slice ico iA.length icc), iA)] W20) := HK19.out.grown hgfour (fun g hg' => by have q1 := Hblt.out.1 g hg'; have q2 := HS.out; omega) (fun g hg' q hq => by
      have q1 := Hblt.out.1 g hg'
      have q2 := HS.out
      rcases List.mem_cons.1 hq with rfl | hq
      · show _ ≠ g; omega
      · skip
        rcases List.mem_cons.1 hq with rfl | hq
        · show _ ≠ g; omega
        · skip
          rcases List.mem_cons.1 hq with rfl | hq
          · show _ ≠ g; omega
          · skip
            rcases List.mem_cons.1 hq with rfl | hq
            · show _ ≠ g; omega
            · skip
              rcases List.mem_cons.1 hq with rfl | hq
              · show _ ≠ g; omega
              · skip
                rcases List.mem_cons.1 hq with rfl | hq
                · show _ ≠ g; omega
                · skip
                  rcases List.mem_cons.1 hq with rfl | hq
                  · show _ ≠ g; omega
                  · skip
                    cases hq) (fun g hg' q hq => by
      have q1 := Hblt.out.1 g hg'
      have q2 := HS.out
      rcases List.mem_cons.1 hq with rfl | hq
      · dsimp only; omega
      · skip
        rcases List.mem_cons.1 hq with rfl | hq
        · dsimp only; omega
        · skip
          rcases List.mem_cons.1 hq with rfl | hq
          · dsimp only; omega
          · skip
            rcases List.mem_cons.1 hq with rfl | hq
            · dsimp only; omega
            · skip
              rcases List.mem_cons.1 hq with rfl | hq
              · dsimp only; omega
              · skip
                rcases List.mem_cons.1 hq with rfl | hq
                · dsimp only; omega
                · skip
                  rcases List.mem_cons.1 hq with rfl | hq
                  · dsimp only; omega
                  · skip
                    rcases List.mem_cons.1 hq with rfl | hq
                    · dsimp only; omega
                    · skip
                      rcases List.mem_cons.1 hq with rfl | hq
                      · dsimp only; omega
                      · skip
                        rcases List.mem_cons.1 hq with rfl | hq
                        · dsimp only; omega
                        · skip
                          cases hq)
  have HOaF20 : Hid (W20.ownsRow U1 9 1 (Value.slice fao fA.length fac) fA.length (strM lone)) := kept8 HOaF19.out hgfour (fun g h1 h2 => by have q1 := Halt.out.1 g h1; have q2 := Hblt.out.1 g h2; have q3 := HS.out; omega)
  have HOaI20 : Hid (W20.ownsRow U1 9 1 (Value.slice iao iA.length iac) iA.length (strM ltwo)) := kept8 HOaI19.out hgfour (fun g h1 h2 => by have q1 := Halt.out.2 g h1; have q2 := Hblt.out.1 g h2; have q3 := HS.out; omega)
  have HObI20 : Hid (W20.ownsRow U3 9 1 (Value.slice ibo iB.length ibc) iB.length (strM lthree)) := kept8 HObI19.out hgfour (fun g h1 h2 => Hbne.out g h2 h1)
  have HObF20 : Hid (W20.ownsRow U3 9 1 (Value.slice fbo fB.length fbc) fB.length (strM lfour)) := hofour
  have HMfour : Hid (lfour.length = fB.length ∧ Marks ⟨#[102, 111, 117, 114]⟩ lfour) := ⟨hlfour, hmfour⟩
  have HW720 : Hid (W7.heap.size ≤ W20.heap.size) := Nat.le_trans HW719.out hgfour.size
  clear hlfour hmfour hofour hgfour
  have bxa := HK20.out.box (v1.heap.size, (Value.slice fao fA.length fac), (Value.slice iao iA.length iac), tA) (by simp)
  have ca0 := cell_rowK bxa 0 _ rfl
  have ca1 := cell_rowK bxa 1 _ rfl
  have ca2 := cell_rowK bxa 2 _ rfl
  clear bxa
  go_wp2_with fail
  refine (grown8_c _ lone ⟨#[111, 110, 101]⟩ _ U1 (by rw [HMone.out.1]; exact HOaF20.out) HMone.out.2 (by have := HS.out; have := HW720.out; omega) (by rw [HMone.out.1]; have := HLa.out; omega) (by decide)).mono ?_
  rw [HMone.out.1]
  rintro e W21 ⟨pv, pl, rfl, ph1, ph2, ph3, ph4, ph5⟩
  obtain ⟨po, pc, rfl, -⟩ := own_formM ph3
  clear ca0 ca1 ca2
  have HK21 : Hid (KN w [(v7.heap.size, (Value.slice fyo fB.length fyc), (Value.slice iyo iB.length iyc), tB), (v6.heap.size, (Value.slice fxo fA.length fxc), (Value.slice ixo iA.length ixc), tA), (v5.heap.size, (Value.slice fzo fA.length fzc), (Value.slice izo iA.length izc), tA), (v4.heap.size, (Value.slice fto fB.length ftc), (Value.slice ito iB.length itc), tB), (v3.heap.size, (Value.slice fbo fB.length fbc), (Value.slice ibo iB.length ibc), tB), (v2.heap.size, (Value.slice fco fA.length fcc), (Value.slice ico iA.length icc), tA), (v1.heap.size, (Value.slice fao fA.length fac), (Value.slice iao iA.length iac), tA)] [(U7, v7.heap.size, (Value.slice fyo fB.length fyc), fB), (U7, v7.heap.size, (Value.slice iyo iB.length iyc), iB), (U6, v6.heap.size, (Value.slice fxo fA.length fxc), fA), (U6, v6.heap.size, (Value.slice ixo iA.length ixc), iA), (U5, v5.heap.size, (Value.slice fzo fA.length fzc), fA), (U5, v5.heap.size, (Value.slice izo iA.length izc), iA), (U4, v4.heap.size, (Value.slice fto fB.length ftc), fB), (U4, v4.heap.size, (Value.slice ito iB.length itc), iB), (U2, v2.heap.size, (Value.slice fco fA.length fcc), fA), (U2, v2.heap.size, (Value.slice ico iA.length icc), iA)] W21) := HK20.out.grown ph4 (fun g hg' => by have q1 := Halt.out.1 g hg'; have q2 := HS.out; omega) (fun g hg' q hq => by
      have q1 := Halt.out.1 g hg'
      have q2 := HS.out
      rcases List.mem_cons.1 hq with rfl | hq
      · show _ ≠ g; omega
      · skip
        rcases List.mem_cons.1 hq with rfl | hq
        · show _ ≠ g; omega
        · skip
          rcases List.mem_cons.1 hq with rfl | hq
          · show _ ≠ g; omega
          · skip
            rcases List.mem_cons.1 hq with rfl | hq
            · show _ ≠ g; omega
            · skip
              rcases List.mem_cons.1 hq with rfl | hq
              · show _ ≠ g; omega
              · skip
                rcases List.mem_cons.1 hq with rfl | hq
                · show _ ≠ g; omega
                · skip
                  rcases List.mem_cons.1 hq with rfl | hq
                  · show _ ≠ g; omega
                  · skip
                    cases hq) (fun g hg' q hq => by
      have q1 := Halt.out.1 g hg'
      have q2 := HS.out
      rcases List.mem_cons.1 hq with rfl | hq
      · dsimp only; omega
      · skip
        rcases List.mem_cons.1 hq with rfl | hq
        · dsimp only; omega
        · skip
          rcases List.mem_cons.1 hq with rfl | hq
          · dsimp only; omega
          · skip
            rcases List.mem_cons.1 hq with rfl | hq
            · dsimp only; omega
            · skip
              rcases List.mem_cons.1 hq with rfl | hq
              · dsimp only; omega
              · skip
                rcases List.mem_cons.1 hq with rfl | hq
                · dsimp only; omega
                · skip
                  rcases List.mem_cons.1 hq with rfl | hq
                  · dsimp only; omega
                  · skip
                    rcases List.mem_cons.1 hq with rfl | hq
                    · dsimp only; omega
                    · skip
                      rcases List.mem_cons.1 hq with rfl | hq
                      · dsimp only; omega
                      · skip
                        rcases List.mem_cons.1 hq with rfl | hq
                        · dsimp only; omega
                        · skip
                          cases hq)
  have HOaI21 : Hid (W21.ownsRow U1 9 1 (Value.slice iao iA.length iac) iA.length (strM ltwo)) := kept8 HOaI20.out ph4 (fun g h1 h2 => Hane.out g h2 h1)
  have HObF21 : Hid (W21.ownsRow U3 9 1 (Value.slice fbo fB.length fbc) fB.length (strM lfour)) := kept8 HObF20.out ph4 (fun g h1 h2 => by have q1 := Hblt.out.1 g h1; have q2 := Halt.out.1 g h2; have q3 := HS.out; omega)
  have HObI21 : Hid (W21.ownsRow U3 9 1 (Value.slice ibo iB.length ibc) iB.length (strM lthree)) := kept8 HObI20.out ph4 (fun g h1 h2 => by have q1 := Hblt.out.2 g h1; have q2 := Halt.out.1 g h2; have q3 := HS.out; omega)
  have HGp21 : Hid (W21.ownsRow U1 9 1 (.slice po (fA.length + 64) pc) (fA.length + 64) (strM pl)) := ph3
  have HMp : Hid (pl.length = fA.length + 64 ∧ Marks ⟨#[111, 110, 101]⟩ pl) := ⟨ph1, ph2⟩
  have Hpb : Hid (∀ g, (Value.slice po (fA.length + 64) pc).ownBlock = some g → (Value.slice fao fA.length fac).ownBlock = some g ∨ W7.heap.size ≤ g) := fun g hg => by
    rcases ph5 g hg with h | h
    · exact .inl h
    · exact .inr (Nat.le_trans HW720.out h)
  have HW721 : Hid (W7.heap.size ≤ W21.heap.size) := Nat.le_trans HW720.out ph4.size
  clear ph1 ph2 ph3 ph4 ph5
  have bxa := HK21.out.box (v1.heap.size, (Value.slice fao fA.length fac), (Value.slice iao iA.length iac), tA) (by simp)
  have ca0 := cell_rowK bxa 0 _ rfl
  have ca1 := cell_rowK bxa 1 _ rfl
  have ca2 := cell_rowK bxa 2 _ rfl
  clear bxa
  go_wp2_with fail
  refine (grown8_c _ ltwo ⟨#[116, 119, 111]⟩ _ U1 (by rw [HMtwo.out.1]; exact HOaI21.out) HMtwo.out.2 (by have := HS.out; have := HW721.out; omega) (by rw [HMtwo.out.1]; have := HLa.out; omega) (by decide)).mono ?_
  rw [HMtwo.out.1]
  rintro e W22 ⟨qv, ql, rfl, qh1, qh2, qh3, qh4, qh5⟩
  obtain ⟨qo, qc, rfl, -⟩ := own_formM qh3
  clear ca0 ca1 ca2
  have HK22 : Hid (KN w [(v7.heap.size, (Value.slice fyo fB.length fyc), (Value.slice iyo iB.length iyc), tB), (v6.heap.size, (Value.slice fxo fA.length fxc), (Value.slice ixo iA.length ixc), tA), (v5.heap.size, (Value.slice fzo fA.length fzc), (Value.slice izo iA.length izc), tA), (v4.heap.size, (Value.slice fto fB.length ftc), (Value.slice ito iB.length itc), tB), (v3.heap.size, (Value.slice fbo fB.length fbc), (Value.slice ibo iB.length ibc), tB), (v2.heap.size, (Value.slice fco fA.length fcc), (Value.slice ico iA.length icc), tA), (v1.heap.size, (Value.slice fao fA.length fac), (Value.slice iao iA.length iac), tA)] [(U7, v7.heap.size, (Value.slice fyo fB.length fyc), fB), (U7, v7.heap.size, (Value.slice iyo iB.length iyc), iB), (U6, v6.heap.size, (Value.slice fxo fA.length fxc), fA), (U6, v6.heap.size, (Value.slice ixo iA.length ixc), iA), (U5, v5.heap.size, (Value.slice fzo fA.length fzc), fA), (U5, v5.heap.size, (Value.slice izo iA.length izc), iA), (U4, v4.heap.size, (Value.slice fto fB.length ftc), fB), (U4, v4.heap.size, (Value.slice ito iB.length itc), iB), (U2, v2.heap.size, (Value.slice fco fA.length fcc), fA), (U2, v2.heap.size, (Value.slice ico iA.length icc), iA)] W22) := HK21.out.grown qh4 (fun g hg' => by have q1 := Halt.out.2 g hg'; have q2 := HS.out; omega) (fun g hg' q hq => by
      have q1 := Halt.out.2 g hg'
      have q2 := HS.out
      rcases List.mem_cons.1 hq with rfl | hq
      · show _ ≠ g; omega
      · skip
        rcases List.mem_cons.1 hq with rfl | hq
        · show _ ≠ g; omega
        · skip
          rcases List.mem_cons.1 hq with rfl | hq
          · show _ ≠ g; omega
          · skip
            rcases List.mem_cons.1 hq with rfl | hq
            · show _ ≠ g; omega
            · skip
              rcases List.mem_cons.1 hq with rfl | hq
              · show _ ≠ g; omega
              · skip
                rcases List.mem_cons.1 hq with rfl | hq
                · show _ ≠ g; omega
                · skip
                  rcases List.mem_cons.1 hq with rfl | hq
                  · show _ ≠ g; omega
                  · skip
                    cases hq) (fun g hg' q hq => by
      have q1 := Halt.out.2 g hg'
      have q2 := HS.out
      rcases List.mem_cons.1 hq with rfl | hq
      · dsimp only; omega
      · skip
        rcases List.mem_cons.1 hq with rfl | hq
        · dsimp only; omega
        · skip
          rcases List.mem_cons.1 hq with rfl | hq
          · dsimp only; omega
          · skip
            rcases List.mem_cons.1 hq with rfl | hq
            · dsimp only; omega
            · skip
              rcases List.mem_cons.1 hq with rfl | hq
              · dsimp only; omega
              · skip
                rcases List.mem_cons.1 hq with rfl | hq
                · dsimp only; omega
                · skip
                  rcases List.mem_cons.1 hq with rfl | hq
                  · dsimp only; omega
                  · skip
                    rcases List.mem_cons.1 hq with rfl | hq
                    · dsimp only; omega
                    · skip
                      rcases List.mem_cons.1 hq with rfl | hq
                      · dsimp only; omega
                      · skip
                        rcases List.mem_cons.1 hq with rfl | hq
                        · dsimp only; omega
                        · skip
                          cases hq)
  have HObF22 : Hid (W22.ownsRow U3 9 1 (Value.slice fbo fB.length fbc) fB.length (strM lfour)) := kept8 HObF21.out qh4 (fun g h1 h2 => by have q1 := Hblt.out.1 g h1; have q2 := Halt.out.2 g h2; have q3 := HS.out; omega)
  have HObI22 : Hid (W22.ownsRow U3 9 1 (Value.slice ibo iB.length ibc) iB.length (strM lthree)) := kept8 HObI21.out qh4 (fun g h1 h2 => by have q1 := Hblt.out.2 g h1; have q2 := Halt.out.2 g h2; have q3 := HS.out; omega)
  have HGp22 : Hid (W22.ownsRow U1 9 1 (.slice po (fA.length + 64) pc) (fA.length + 64) (strM pl)) := kept8 HGp21.out qh4 (fun g h1 h2 => by have q2 := Halt.out.2 g h2; have q3 := HS.out; rcases Hpb.out g h1 with q | q; exact Hane.out g q h2; omega)
  have HGq22 : Hid (W22.ownsRow U1 9 1 (.slice qo (iA.length + 64) qc) (iA.length + 64) (strM ql)) := qh3
  have HMq : Hid (ql.length = iA.length + 64 ∧ Marks ⟨#[116, 119, 111]⟩ ql) := ⟨qh1, qh2⟩
  have Hqb : Hid (∀ g, (Value.slice qo (iA.length + 64) qc).ownBlock = some g → (Value.slice iao iA.length iac).ownBlock = some g ∨ W7.heap.size ≤ g) := fun g hg => by
    rcases qh5 g hg with h | h
    · exact .inl h
    · exact .inr (Nat.le_trans HW721.out h)
  have HW722 : Hid (W7.heap.size ≤ W22.heap.size) := Nat.le_trans HW721.out qh4.size
  clear qh1 qh2 qh3 qh4 qh5
  have bxb := HK22.out.box (v3.heap.size, (Value.slice fbo fB.length fbc), (Value.slice ibo iB.length ibc), tB) (by simp)
  have cb0 := cell_rowK bxb 0 _ rfl
  have cb1 := cell_rowK bxb 1 _ rfl
  have cb2 := cell_rowK bxb 2 _ rfl
  clear bxb
  go_wp2_with fail
  refine (grown8_c _ lthree ⟨#[116, 104, 114, 101, 101]⟩ _ U3 (by rw [HMthree.out.1]; exact HObI22.out) HMthree.out.2 (by have := HS.out; have := HW722.out; omega) (by rw [HMthree.out.1]; have := HLb.out; omega) (by decide)).mono ?_
  rw [HMthree.out.1]
  rintro e W23 ⟨rv, rl, rfl, rh1, rh2, rh3, rh4, rh5⟩
  obtain ⟨ro, rc, rfl, -⟩ := own_formM rh3
  clear cb0 cb1 cb2
  have HK23 : Hid (KN w [(v7.heap.size, (Value.slice fyo fB.length fyc), (Value.slice iyo iB.length iyc), tB), (v6.heap.size, (Value.slice fxo fA.length fxc), (Value.slice ixo iA.length ixc), tA), (v5.heap.size, (Value.slice fzo fA.length fzc), (Value.slice izo iA.length izc), tA), (v4.heap.size, (Value.slice fto fB.length ftc), (Value.slice ito iB.length itc), tB), (v3.heap.size, (Value.slice fbo fB.length fbc), (Value.slice ibo iB.length ibc), tB), (v2.heap.size, (Value.slice fco fA.length fcc), (Value.slice ico iA.length icc), tA), (v1.heap.size, (Value.slice fao fA.length fac), (Value.slice iao iA.length iac), tA)] [(U7, v7.heap.size, (Value.slice fyo fB.length fyc), fB), (U7, v7.heap.size, (Value.slice iyo iB.length iyc), iB), (U6, v6.heap.size, (Value.slice fxo fA.length fxc), fA), (U6, v6.heap.size, (Value.slice ixo iA.length ixc), iA), (U5, v5.heap.size, (Value.slice fzo fA.length fzc), fA), (U5, v5.heap.size, (Value.slice izo iA.length izc), iA), (U4, v4.heap.size, (Value.slice fto fB.length ftc), fB), (U4, v4.heap.size, (Value.slice ito iB.length itc), iB), (U2, v2.heap.size, (Value.slice fco fA.length fcc), fA), (U2, v2.heap.size, (Value.slice ico iA.length icc), iA)] W23) := HK22.out.grown rh4 (fun g hg' => by have q1 := Hblt.out.2 g hg'; have q2 := HS.out; omega) (fun g hg' q hq => by
      have q1 := Hblt.out.2 g hg'
      have q2 := HS.out
      rcases List.mem_cons.1 hq with rfl | hq
      · show _ ≠ g; omega
      · skip
        rcases List.mem_cons.1 hq with rfl | hq
        · show _ ≠ g; omega
        · skip
          rcases List.mem_cons.1 hq with rfl | hq
          · show _ ≠ g; omega
          · skip
            rcases List.mem_cons.1 hq with rfl | hq
            · show _ ≠ g; omega
            · skip
              rcases List.mem_cons.1 hq with rfl | hq
              · show _ ≠ g; omega
              · skip
                rcases List.mem_cons.1 hq with rfl | hq
                · show _ ≠ g; omega
                · skip
                  rcases List.mem_cons.1 hq with rfl | hq
                  · show _ ≠ g; omega
                  · skip
                    cases hq) (fun g hg' q hq => by
      have q1 := Hblt.out.2 g hg'
      have q2 := HS.out
      rcases List.mem_cons.1 hq with rfl | hq
      · dsimp only; omega
      · skip
        rcases List.mem_cons.1 hq with rfl | hq
        · dsimp only; omega
        · skip
          rcases List.mem_cons.1 hq with rfl | hq
          · dsimp only; omega
          · skip
            rcases List.mem_cons.1 hq with rfl | hq
            · dsimp only; omega
            · skip
              rcases List.mem_cons.1 hq with rfl | hq
              · dsimp only; omega
              · skip
                rcases List.mem_cons.1 hq with rfl | hq
                · dsimp only; omega
                · skip
                  rcases List.mem_cons.1 hq with rfl | hq
                  · dsimp only; omega
                  · skip
                    rcases List.mem_cons.1 hq with rfl | hq
                    · dsimp only; omega
                    · skip
                      rcases List.mem_cons.1 hq with rfl | hq
                      · dsimp only; omega
                      · skip
                        rcases List.mem_cons.1 hq with rfl | hq
                        · dsimp only; omega
                        · skip
                          cases hq)
  have HObF23 : Hid (W23.ownsRow U3 9 1 (Value.slice fbo fB.length fbc) fB.length (strM lfour)) := kept8 HObF22.out rh4 (fun g h1 h2 => Hbne.out g h1 h2)
  have HGp23 : Hid (W23.ownsRow U1 9 1 (.slice po (fA.length + 64) pc) (fA.length + 64) (strM pl)) := kept8 HGp22.out rh4 (fun g h1 h2 => by have q2 := Hblt.out.2 g h2; have q3 := HS.out; rcases Hpb.out g h1 with q | q; have q1 := Halt.out.1 g q; omega; omega)
  have HGq23 : Hid (W23.ownsRow U1 9 1 (.slice qo (iA.length + 64) qc) (iA.length + 64) (strM ql)) := kept8 HGq22.out rh4 (fun g h1 h2 => by have q2 := Hblt.out.2 g h2; have q3 := HS.out; rcases Hqb.out g h1 with q | q; have q1 := Halt.out.2 g q; omega; omega)
  have HGr23 : Hid (W23.ownsRow U3 9 1 (.slice ro (iB.length + 64) rc) (iB.length + 64) (strM rl)) := rh3
  have HMr : Hid (rl.length = iB.length + 64 ∧ Marks ⟨#[116, 104, 114, 101, 101]⟩ rl) := ⟨rh1, rh2⟩
  have Hrb : Hid (∀ g, (Value.slice ro (iB.length + 64) rc).ownBlock = some g → (Value.slice ibo iB.length ibc).ownBlock = some g ∨ W7.heap.size ≤ g) := fun g hg => by
    rcases rh5 g hg with h | h
    · exact .inl h
    · exact .inr (Nat.le_trans HW722.out h)
  have HW723 : Hid (W7.heap.size ≤ W23.heap.size) := Nat.le_trans HW722.out rh4.size
  clear rh1 rh2 rh3 rh4 rh5
  have bxb := HK23.out.box (v3.heap.size, (Value.slice fbo fB.length fbc), (Value.slice ibo iB.length ibc), tB) (by simp)
  have cb0 := cell_rowK bxb 0 _ rfl
  have cb1 := cell_rowK bxb 1 _ rfl
  have cb2 := cell_rowK bxb 2 _ rfl
  clear bxb
  go_wp2_with fail
  refine (grown8_c _ lfour ⟨#[102, 111, 117, 114]⟩ _ U3 (by rw [HMfour.out.1]; exact HObF23.out) HMfour.out.2 (by have := HS.out; have := HW723.out; omega) (by rw [HMfour.out.1]; have := HLb.out; omega) (by decide)).mono ?_
  rw [HMfour.out.1]
  rintro e W24 ⟨sv, sl, rfl, sh1, sh2, sh3, sh4, sh5⟩
  obtain ⟨so, sc, rfl, -⟩ := own_formM sh3
  clear cb0 cb1 cb2
  have HK24 : Hid (KN w [(v7.heap.size, (Value.slice fyo fB.length fyc), (Value.slice iyo iB.length iyc), tB), (v6.heap.size, (Value.slice fxo fA.length fxc), (Value.slice ixo iA.length ixc), tA), (v5.heap.size, (Value.slice fzo fA.length fzc), (Value.slice izo iA.length izc), tA), (v4.heap.size, (Value.slice fto fB.length ftc), (Value.slice ito iB.length itc), tB), (v3.heap.size, (Value.slice fbo fB.length fbc), (Value.slice ibo iB.length ibc), tB), (v2.heap.size, (Value.slice fco fA.length fcc), (Value.slice ico iA.length icc), tA), (v1.heap.size, (Value.slice fao fA.length fac), (Value.slice iao iA.length iac), tA)] [(U7, v7.heap.size, (Value.slice fyo fB.length fyc), fB), (U7, v7.heap.size, (Value.slice iyo iB.length iyc), iB), (U6, v6.heap.size, (Value.slice fxo fA.length fxc), fA), (U6, v6.heap.size, (Value.slice ixo iA.length ixc), iA), (U5, v5.heap.size, (Value.slice fzo fA.length fzc), fA), (U5, v5.heap.size, (Value.slice izo iA.length izc), iA), (U4, v4.heap.size, (Value.slice fto fB.length ftc), fB), (U4, v4.heap.size, (Value.slice ito iB.length itc), iB), (U2, v2.heap.size, (Value.slice fco fA.length fcc), fA), (U2, v2.heap.size, (Value.slice ico iA.length icc), iA)] W24) := HK23.out.grown sh4 (fun g hg' => by have q1 := Hblt.out.1 g hg'; have q2 := HS.out; omega) (fun g hg' q hq => by
      have q1 := Hblt.out.1 g hg'
      have q2 := HS.out
      rcases List.mem_cons.1 hq with rfl | hq
      · show _ ≠ g; omega
      · skip
        rcases List.mem_cons.1 hq with rfl | hq
        · show _ ≠ g; omega
        · skip
          rcases List.mem_cons.1 hq with rfl | hq
          · show _ ≠ g; omega
          · skip
            rcases List.mem_cons.1 hq with rfl | hq
            · show _ ≠ g; omega
            · skip
              rcases List.mem_cons.1 hq with rfl | hq
              · show _ ≠ g; omega
              · skip
                rcases List.mem_cons.1 hq with rfl | hq
                · show _ ≠ g; omega
                · skip
                  rcases List.mem_cons.1 hq with rfl | hq
                  · show _ ≠ g; omega
                  · skip
                    cases hq) (fun g hg' q hq => by
      have q1 := Hblt.out.1 g hg'
      have q2 := HS.out
      rcases List.mem_cons.1 hq with rfl | hq
      · dsimp only; omega
      · skip
        rcases List.mem_cons.1 hq with rfl | hq
        · dsimp only; omega
        · skip
          rcases List.mem_cons.1 hq with rfl | hq
          · dsimp only; omega
          · skip
            rcases List.mem_cons.1 hq with rfl | hq
            · dsimp only; omega
            · skip
              rcases List.mem_cons.1 hq with rfl | hq
              · dsimp only; omega
              · skip
                rcases List.mem_cons.1 hq with rfl | hq
                · dsimp only; omega
                · skip
                  rcases List.mem_cons.1 hq with rfl | hq
                  · dsimp only; omega
                  · skip
                    rcases List.mem_cons.1 hq with rfl | hq
                    · dsimp only; omega
                    · skip
                      rcases List.mem_cons.1 hq with rfl | hq
                      · dsimp only; omega
                      · skip
                        rcases List.mem_cons.1 hq with rfl | hq
                        · dsimp only; omega
                        · skip
                          cases hq)
  have HGp24 : Hid (W24.ownsRow U1 9 1 (.slice po (fA.length + 64) pc) (fA.length + 64) (strM pl)) := kept8 HGp23.out sh4 (fun g h1 h2 => by have q2 := Hblt.out.1 g h2; have q3 := HS.out; rcases Hpb.out g h1 with q | q; have q1 := Halt.out.1 g q; omega; omega)
  have HGq24 : Hid (W24.ownsRow U1 9 1 (.slice qo (iA.length + 64) qc) (iA.length + 64) (strM ql)) := kept8 HGq23.out sh4 (fun g h1 h2 => by have q2 := Hblt.out.1 g h2; have q3 := HS.out; rcases Hqb.out g h1 with q | q; have q1 := Halt.out.2 g q; omega; omega)
  have HGr24 : Hid (W24.ownsRow U3 9 1 (.slice ro (iB.length + 64) rc) (iB.length + 64) (strM rl)) := kept8 HGr23.out sh4 (fun g h1 h2 => by have q2 := Hblt.out.1 g h2; have q3 := HS.out; rcases Hrb.out g h1 with q | q; exact Hbne.out g h2 q; omega)
  have HGs24 : Hid (W24.ownsRow U3 9 1 (.slice so (fB.length + 64) sc) (fB.length + 64) (strM sl)) := sh3
  have HMs : Hid (sl.length = fB.length + 64 ∧ Marks ⟨#[102, 111, 117, 114]⟩ sl) := ⟨sh1, sh2⟩
  have Hsb : Hid (∀ g, (Value.slice so (fB.length + 64) sc).ownBlock = some g → (Value.slice fbo fB.length fbc).ownBlock = some g ∨ W7.heap.size ≤ g) := fun g hg => by
    rcases sh5 g hg with h | h
    · exact .inl h
    · exact .inr (Nat.le_trans HW723.out h)
  have HW724 : Hid (W7.heap.size ≤ W24.heap.size) := Nat.le_trans HW723.out sh4.size
  clear sh1 sh2 sh3 sh4 sh5
  go_wp2_with fail
  refine (HWa.out _ HK24.out.low).mono ?_
  rintro e ud ⟨tao, tcap, rfl, tr, b1⟩
  have HId := hidT8 (HK24.out.on b1)
  have HTR := hidT8 tr
  have HGpd : Hid (ud.ownsRow U1 9 1 (.slice po (fA.length + 64) pc) (fA.length + 64) (strM pl)) := own_on8 HGp24.out b1
  have HGqd : Hid (ud.ownsRow U1 9 1 (.slice qo (iA.length + 64) qc) (iA.length + 64) (strM ql)) := own_on8 HGq24.out b1
  have HGrd : Hid (ud.ownsRow U3 9 1 (.slice ro (iB.length + 64) rc) (iB.length + 64) (strM rl)) := own_on8 HGr24.out b1
  have HGsd : Hid (ud.ownsRow U3 9 1 (.slice so (fB.length + 64) sc) (fB.length + 64) (strM sl)) := own_on8 HGs24.out b1
  clear tr b1
  go_wp2_with fail
  refine (HEa.out _ _ HId.out.low HTR.out).mono ?_
  rintro e v8 ⟨F, I, rfl, q1, q2, b2, q3⟩
  obtain ⟨fdo, fdc, rfl, -⟩ := own_formM q1
  obtain ⟨ido, idc, rfl, -⟩ := own_formM q2
  obtain ⟨U8, hU8⟩ : ∃ U, U = ud.heap.size := ⟨_, rfl⟩
  rw [← hU8] at q1 q2
  have HJ8 := hidT8 (HId.out.on b2)
  have HGpe : Hid (v8.ownsRow U1 9 1 (.slice po (fA.length + 64) pc) (fA.length + 64) (strM pl)) := own_on8 HGpd.out b2
  have HGqe : Hid (v8.ownsRow U1 9 1 (.slice qo (iA.length + 64) qc) (iA.length + 64) (strM ql)) := own_on8 HGqd.out b2
  have HGre : Hid (v8.ownsRow U3 9 1 (.slice ro (iB.length + 64) rc) (iB.length + 64) (strM rl)) := own_on8 HGrd.out b2
  have HGse : Hid (v8.ownsRow U3 9 1 (.slice so (fB.length + 64) sc) (fB.length + 64) (strM sl)) := own_on8 HGsd.out b2
  have HM8 : Hid (KN w [(v7.heap.size, (Value.slice fyo fB.length fyc), (Value.slice iyo iB.length iyc), tB), (v6.heap.size, (Value.slice fxo fA.length fxc), (Value.slice ixo iA.length ixc), tA), (v5.heap.size, (Value.slice fzo fA.length fzc), (Value.slice izo iA.length izc), tA), (v4.heap.size, (Value.slice fto fB.length ftc), (Value.slice ito iB.length itc), tB), (v3.heap.size, (Value.slice fbo fB.length fbc), (Value.slice ibo iB.length ibc), tB), (v2.heap.size, (Value.slice fco fA.length fcc), (Value.slice ico iA.length icc), tA), (v1.heap.size, (Value.slice fao fA.length fac), (Value.slice iao iA.length iac), tA)] [(U8, v8.heap.size, (Value.slice fdo fA.length fdc), fA), (U8, v8.heap.size, (Value.slice ido iA.length idc), iA), (U7, v7.heap.size, (Value.slice fyo fB.length fyc), fB), (U7, v7.heap.size, (Value.slice iyo iB.length iyc), iB), (U6, v6.heap.size, (Value.slice fxo fA.length fxc), fA), (U6, v6.heap.size, (Value.slice ixo iA.length ixc), iA), (U5, v5.heap.size, (Value.slice fzo fA.length fzc), fA), (U5, v5.heap.size, (Value.slice izo iA.length izc), iA), (U4, v4.heap.size, (Value.slice fto fB.length ftc), fB), (U4, v4.heap.size, (Value.slice ito iB.length itc), iB), (U2, v2.heap.size, (Value.slice fco fA.length fcc), fA), (U2, v2.heap.size, (Value.slice ico iA.length icc), iA)] v8) := HJ8.out.rows2 (RowR.ofOwn q1 (Nat.le_refl _)) (RowR.ofOwn q2 (Nat.le_refl _))
  clear q1 q2 b2 q3
  go_upto_region 23 with (refine wpList_store_kz rfl rfl _ _ _ rfl v8.heap.size 0 (.agg #[(Value.slice fdo fA.length fdc), (Value.slice ido iA.length idc), .string tA]) rfl rfl _ _ #[(Value.slice fdo fA.length fdc), (Value.slice ido iA.length idc), .string tA] (heap_alloc_new _ _) (by kernel_rfl) rfl rfl rfl ?_; intro W25 R8 q8)
  have B8 : Below v8.heap.size v8 W25 := q8.belowN (bupK (Below.refl _ _) _) (Nat.le_refl _) (Nat.le_refl _)
  have HK25 : Hid (KN w [(v8.heap.size, (Value.slice fdo fA.length fdc), (Value.slice ido iA.length idc), tA), (v7.heap.size, (Value.slice fyo fB.length fyc), (Value.slice iyo iB.length iyc), tB), (v6.heap.size, (Value.slice fxo fA.length fxc), (Value.slice ixo iA.length ixc), tA), (v5.heap.size, (Value.slice fzo fA.length fzc), (Value.slice izo iA.length izc), tA), (v4.heap.size, (Value.slice fto fB.length ftc), (Value.slice ito iB.length itc), tB), (v3.heap.size, (Value.slice fbo fB.length fbc), (Value.slice ibo iB.length ibc), tB), (v2.heap.size, (Value.slice fco fA.length fcc), (Value.slice ico iA.length icc), tA), (v1.heap.size, (Value.slice fao fA.length fac), (Value.slice iao iA.length iac), tA)] [(U8, v8.heap.size, (Value.slice fdo fA.length fdc), fA), (U8, v8.heap.size, (Value.slice ido iA.length idc), iA), (U7, v7.heap.size, (Value.slice fyo fB.length fyc), fB), (U7, v7.heap.size, (Value.slice iyo iB.length iyc), iB), (U6, v6.heap.size, (Value.slice fxo fA.length fxc), fA), (U6, v6.heap.size, (Value.slice ixo iA.length ixc), iA), (U5, v5.heap.size, (Value.slice fzo fA.length fzc), fA), (U5, v5.heap.size, (Value.slice izo iA.length izc), iA), (U4, v4.heap.size, (Value.slice fto fB.length ftc), fB), (U4, v4.heap.size, (Value.slice ito iB.length itc), iB), (U2, v2.heap.size, (Value.slice fco fA.length fcc), fA), (U2, v2.heap.size, (Value.slice ico iA.length icc), iA)] W25) := (HM8.out.on B8).box1 R8
  have HGp25 : Hid (W25.ownsRow U1 9 1 (.slice po (fA.length + 64) pc) (fA.length + 64) (strM pl)) := own_on8 HGpe.out B8
  have HGq25 : Hid (W25.ownsRow U1 9 1 (.slice qo (iA.length + 64) qc) (iA.length + 64) (strM ql)) := own_on8 HGqe.out B8
  have HGr25 : Hid (W25.ownsRow U3 9 1 (.slice ro (iB.length + 64) rc) (iB.length + 64) (strM rl)) := own_on8 HGre.out B8
  have HGs25 : Hid (W25.ownsRow U3 9 1 (.slice so (fB.length + 64) sc) (fB.length + 64) (strM sl)) := own_on8 HGse.out B8
  clear R8 q8 B8 HJ8 HM8 HId HTR
  have bxc := HK25.out.box (v2.heap.size, (Value.slice fco fA.length fcc), (Value.slice ico iA.length icc), tA) (by simp)
  have cc0 := cell_rowK bxc 0 _ rfl
  have cc1 := cell_rowK bxc 1 _ rfl
  have cc2 := cell_rowK bxc 2 _ rfl
  clear bxc
  have bxx := HK25.out.box (v6.heap.size, (Value.slice fxo fA.length fxc), (Value.slice ixo iA.length ixc), tA) (by simp)
  have cx0 := cell_rowK bxx 0 _ rfl
  have cx1 := cell_rowK bxx 1 _ rfl
  have cx2 := cell_rowK bxx 2 _ rfl
  clear bxx
  go_wp2_with fail
  refine (HAL.out _ _ _ _ _ fA iA _ HLa.out.1 HLa.out.2 (HK25.out.row (U2, v2.heap.size, (Value.slice fco fA.length fcc), fA) (by simp)).1 (HK25.out.row (U6, v6.heap.size, (Value.slice fxo fA.length fxc), fA) (by simp)).1 (HK25.out.row (U2, v2.heap.size, (Value.slice ico iA.length icc), iA) (by simp)).1 (HK25.out.row (U6, v6.heap.size, (Value.slice ixo iA.length ixc), iA) (by simp)).1).mono ?_
  rintro e W26 ⟨rfl, bb⟩
  clear cc0 cc1 cc2 cx0 cx1 cx2
  have HK26 : Hid (KN w [(v8.heap.size, (Value.slice fdo fA.length fdc), (Value.slice ido iA.length idc), tA), (v7.heap.size, (Value.slice fyo fB.length fyc), (Value.slice iyo iB.length iyc), tB), (v6.heap.size, (Value.slice fxo fA.length fxc), (Value.slice ixo iA.length ixc), tA), (v5.heap.size, (Value.slice fzo fA.length fzc), (Value.slice izo iA.length izc), tA), (v4.heap.size, (Value.slice fto fB.length ftc), (Value.slice ito iB.length itc), tB), (v3.heap.size, (Value.slice fbo fB.length fbc), (Value.slice ibo iB.length ibc), tB), (v2.heap.size, (Value.slice fco fA.length fcc), (Value.slice ico iA.length icc), tA), (v1.heap.size, (Value.slice fao fA.length fac), (Value.slice iao iA.length iac), tA)] [(U8, v8.heap.size, (Value.slice fdo fA.length fdc), fA), (U8, v8.heap.size, (Value.slice ido iA.length idc), iA), (U7, v7.heap.size, (Value.slice fyo fB.length fyc), fB), (U7, v7.heap.size, (Value.slice iyo iB.length iyc), iB), (U6, v6.heap.size, (Value.slice fxo fA.length fxc), fA), (U6, v6.heap.size, (Value.slice ixo iA.length ixc), iA), (U5, v5.heap.size, (Value.slice fzo fA.length fzc), fA), (U5, v5.heap.size, (Value.slice izo iA.length izc), iA), (U4, v4.heap.size, (Value.slice fto fB.length ftc), fB), (U4, v4.heap.size, (Value.slice ito iB.length itc), iB), (U2, v2.heap.size, (Value.slice fco fA.length fcc), fA), (U2, v2.heap.size, (Value.slice ico iA.length icc), iA)] W26) := HK25.out.on bb
  have HGp26 : Hid (W26.ownsRow U1 9 1 (.slice po (fA.length + 64) pc) (fA.length + 64) (strM pl)) := own_on8 HGp25.out bb
  have HGq26 : Hid (W26.ownsRow U1 9 1 (.slice qo (iA.length + 64) qc) (iA.length + 64) (strM ql)) := own_on8 HGq25.out bb
  have HGr26 : Hid (W26.ownsRow U3 9 1 (.slice ro (iB.length + 64) rc) (iB.length + 64) (strM rl)) := own_on8 HGr25.out bb
  have HGs26 : Hid (W26.ownsRow U3 9 1 (.slice so (fB.length + 64) sc) (fB.length + 64) (strM sl)) := own_on8 HGs25.out bb
  clear bb
  have bxt := HK26.out.box (v4.heap.size, (Value.slice fto fB.length ftc), (Value.slice ito iB.length itc), tB) (by simp)
  have ct0 := cell_rowK bxt 0 _ rfl
  have ct1 := cell_rowK bxt 1 _ rfl
  have ct2 := cell_rowK bxt 2 _ rfl
  clear bxt
  have bxy := HK26.out.box (v7.heap.size, (Value.slice fyo fB.length fyc), (Value.slice iyo iB.length iyc), tB) (by simp)
  have cy0 := cell_rowK bxy 0 _ rfl
  have cy1 := cell_rowK bxy 1 _ rfl
  have cy2 := cell_rowK bxy 2 _ rfl
  clear bxy
  go_wp2_with fail
  refine (HAL.out _ _ _ _ _ fB iB _ HLb.out.1 HLb.out.2 (HK26.out.row (U4, v4.heap.size, (Value.slice fto fB.length ftc), fB) (by simp)).1 (HK26.out.row (U7, v7.heap.size, (Value.slice fyo fB.length fyc), fB) (by simp)).1 (HK26.out.row (U4, v4.heap.size, (Value.slice ito iB.length itc), iB) (by simp)).1 (HK26.out.row (U7, v7.heap.size, (Value.slice iyo iB.length iyc), iB) (by simp)).1).mono ?_
  rintro e W27 ⟨rfl, bb⟩
  clear ct0 ct1 ct2 cy0 cy1 cy2
  have HK27 : Hid (KN w [(v8.heap.size, (Value.slice fdo fA.length fdc), (Value.slice ido iA.length idc), tA), (v7.heap.size, (Value.slice fyo fB.length fyc), (Value.slice iyo iB.length iyc), tB), (v6.heap.size, (Value.slice fxo fA.length fxc), (Value.slice ixo iA.length ixc), tA), (v5.heap.size, (Value.slice fzo fA.length fzc), (Value.slice izo iA.length izc), tA), (v4.heap.size, (Value.slice fto fB.length ftc), (Value.slice ito iB.length itc), tB), (v3.heap.size, (Value.slice fbo fB.length fbc), (Value.slice ibo iB.length ibc), tB), (v2.heap.size, (Value.slice fco fA.length fcc), (Value.slice ico iA.length icc), tA), (v1.heap.size, (Value.slice fao fA.length fac), (Value.slice iao iA.length iac), tA)] [(U8, v8.heap.size, (Value.slice fdo fA.length fdc), fA), (U8, v8.heap.size, (Value.slice ido iA.length idc), iA), (U7, v7.heap.size, (Value.slice fyo fB.length fyc), fB), (U7, v7.heap.size, (Value.slice iyo iB.length iyc), iB), (U6, v6.heap.size, (Value.slice fxo fA.length fxc), fA), (U6, v6.heap.size, (Value.slice ixo iA.length ixc), iA), (U5, v5.heap.size, (Value.slice fzo fA.length fzc), fA), (U5, v5.heap.size, (Value.slice izo iA.length izc), iA), (U4, v4.heap.size, (Value.slice fto fB.length ftc), fB), (U4, v4.heap.size, (Value.slice ito iB.length itc), iB), (U2, v2.heap.size, (Value.slice fco fA.length fcc), fA), (U2, v2.heap.size, (Value.slice ico iA.length icc), iA)] W27) := HK26.out.on bb
  have HGp27 : Hid (W27.ownsRow U1 9 1 (.slice po (fA.length + 64) pc) (fA.length + 64) (strM pl)) := own_on8 HGp26.out bb
  have HGq27 : Hid (W27.ownsRow U1 9 1 (.slice qo (iA.length + 64) qc) (iA.length + 64) (strM ql)) := own_on8 HGq26.out bb
  have HGr27 : Hid (W27.ownsRow U3 9 1 (.slice ro (iB.length + 64) rc) (iB.length + 64) (strM rl)) := own_on8 HGr26.out bb
  have HGs27 : Hid (W27.ownsRow U3 9 1 (.slice so (fB.length + 64) sc) (fB.length + 64) (strM sl)) := own_on8 HGs26.out bb
  clear bb
  have bxz := HK27.out.box (v5.heap.size, (Value.slice fzo fA.length fzc), (Value.slice izo iA.length izc), tA) (by simp)
  have cz0 := cell_rowK bxz 0 _ rfl
  have cz1 := cell_rowK bxz 1 _ rfl
  have cz2 := cell_rowK bxz 2 _ rfl
  clear bxz
  have bxx := HK27.out.box (v6.heap.size, (Value.slice fxo fA.length fxc), (Value.slice ixo iA.length ixc), tA) (by simp)
  have cx0 := cell_rowK bxx 0 _ rfl
  have cx1 := cell_rowK bxx 1 _ rfl
  have cx2 := cell_rowK bxx 2 _ rfl
  clear bxx
  go_wp2_with fail
  refine (HAL.out _ _ _ _ _ fA iA _ HLa.out.1 HLa.out.2 (HK27.out.row (U5, v5.heap.size, (Value.slice fzo fA.length fzc), fA) (by simp)).1 (HK27.out.row (U6, v6.heap.size, (Value.slice fxo fA.length fxc), fA) (by simp)).1 (HK27.out.row (U5, v5.heap.size, (Value.slice izo iA.length izc), iA) (by simp)).1 (HK27.out.row (U6, v6.heap.size, (Value.slice ixo iA.length ixc), iA) (by simp)).1).mono ?_
  rintro e W28 ⟨rfl, bb⟩
  clear cz0 cz1 cz2 cx0 cx1 cx2
  have HK28 : Hid (KN w [(v8.heap.size, (Value.slice fdo fA.length fdc), (Value.slice ido iA.length idc), tA), (v7.heap.size, (Value.slice fyo fB.length fyc), (Value.slice iyo iB.length iyc), tB), (v6.heap.size, (Value.slice fxo fA.length fxc), (Value.slice ixo iA.length ixc), tA), (v5.heap.size, (Value.slice fzo fA.length fzc), (Value.slice izo iA.length izc), tA), (v4.heap.size, (Value.slice fto fB.length ftc), (Value.slice ito iB.length itc), tB), (v3.heap.size, (Value.slice fbo fB.length fbc), (Value.slice ibo iB.length ibc), tB), (v2.heap.size, (Value.slice fco fA.length fcc), (Value.slice ico iA.length icc), tA), (v1.heap.size, (Value.slice fao fA.length fac), (Value.slice iao iA.length iac), tA)] [(U8, v8.heap.size, (Value.slice fdo fA.length fdc), fA), (U8, v8.heap.size, (Value.slice ido iA.length idc), iA), (U7, v7.heap.size, (Value.slice fyo fB.length fyc), fB), (U7, v7.heap.size, (Value.slice iyo iB.length iyc), iB), (U6, v6.heap.size, (Value.slice fxo fA.length fxc), fA), (U6, v6.heap.size, (Value.slice ixo iA.length ixc), iA), (U5, v5.heap.size, (Value.slice fzo fA.length fzc), fA), (U5, v5.heap.size, (Value.slice izo iA.length izc), iA), (U4, v4.heap.size, (Value.slice fto fB.length ftc), fB), (U4, v4.heap.size, (Value.slice ito iB.length itc), iB), (U2, v2.heap.size, (Value.slice fco fA.length fcc), fA), (U2, v2.heap.size, (Value.slice ico iA.length icc), iA)] W28) := HK27.out.on bb
  have HGp28 : Hid (W28.ownsRow U1 9 1 (.slice po (fA.length + 64) pc) (fA.length + 64) (strM pl)) := own_on8 HGp27.out bb
  have HGq28 : Hid (W28.ownsRow U1 9 1 (.slice qo (iA.length + 64) qc) (iA.length + 64) (strM ql)) := own_on8 HGq27.out bb
  have HGr28 : Hid (W28.ownsRow U3 9 1 (.slice ro (iB.length + 64) rc) (iB.length + 64) (strM rl)) := own_on8 HGr27.out bb
  have HGs28 : Hid (W28.ownsRow U3 9 1 (.slice so (fB.length + 64) sc) (fB.length + 64) (strM sl)) := own_on8 HGs27.out bb
  clear bb
  have bxd := HK28.out.box (v8.heap.size, (Value.slice fdo fA.length fdc), (Value.slice ido iA.length idc), tA) (by simp)
  have cd0 := cell_rowK bxd 0 _ rfl
  have cd1 := cell_rowK bxd 1 _ rfl
  have cd2 := cell_rowK bxd 2 _ rfl
  clear bxd
  have bxx := HK28.out.box (v6.heap.size, (Value.slice fxo fA.length fxc), (Value.slice ixo iA.length ixc), tA) (by simp)
  have cx0 := cell_rowK bxx 0 _ rfl
  have cx1 := cell_rowK bxx 1 _ rfl
  have cx2 := cell_rowK bxx 2 _ rfl
  clear bxx
  go_wp2_with fail
  refine (HAL.out _ _ _ _ _ fA iA _ HLa.out.1 HLa.out.2 (HK28.out.row (U8, v8.heap.size, (Value.slice fdo fA.length fdc), fA) (by simp)).1 (HK28.out.row (U6, v6.heap.size, (Value.slice fxo fA.length fxc), fA) (by simp)).1 (HK28.out.row (U8, v8.heap.size, (Value.slice ido iA.length idc), iA) (by simp)).1 (HK28.out.row (U6, v6.heap.size, (Value.slice ixo iA.length ixc), iA) (by simp)).1).mono ?_
  rintro e W29 ⟨rfl, bb⟩
  clear cd0 cd1 cd2 cx0 cx1 cx2
  have HK29 : Hid (KN w [(v8.heap.size, (Value.slice fdo fA.length fdc), (Value.slice ido iA.length idc), tA), (v7.heap.size, (Value.slice fyo fB.length fyc), (Value.slice iyo iB.length iyc), tB), (v6.heap.size, (Value.slice fxo fA.length fxc), (Value.slice ixo iA.length ixc), tA), (v5.heap.size, (Value.slice fzo fA.length fzc), (Value.slice izo iA.length izc), tA), (v4.heap.size, (Value.slice fto fB.length ftc), (Value.slice ito iB.length itc), tB), (v3.heap.size, (Value.slice fbo fB.length fbc), (Value.slice ibo iB.length ibc), tB), (v2.heap.size, (Value.slice fco fA.length fcc), (Value.slice ico iA.length icc), tA), (v1.heap.size, (Value.slice fao fA.length fac), (Value.slice iao iA.length iac), tA)] [(U8, v8.heap.size, (Value.slice fdo fA.length fdc), fA), (U8, v8.heap.size, (Value.slice ido iA.length idc), iA), (U7, v7.heap.size, (Value.slice fyo fB.length fyc), fB), (U7, v7.heap.size, (Value.slice iyo iB.length iyc), iB), (U6, v6.heap.size, (Value.slice fxo fA.length fxc), fA), (U6, v6.heap.size, (Value.slice ixo iA.length ixc), iA), (U5, v5.heap.size, (Value.slice fzo fA.length fzc), fA), (U5, v5.heap.size, (Value.slice izo iA.length izc), iA), (U4, v4.heap.size, (Value.slice fto fB.length ftc), fB), (U4, v4.heap.size, (Value.slice ito iB.length itc), iB), (U2, v2.heap.size, (Value.slice fco fA.length fcc), fA), (U2, v2.heap.size, (Value.slice ico iA.length icc), iA)] W29) := HK28.out.on bb
  have HGp29 : Hid (W29.ownsRow U1 9 1 (.slice po (fA.length + 64) pc) (fA.length + 64) (strM pl)) := own_on8 HGp28.out bb
  have HGq29 : Hid (W29.ownsRow U1 9 1 (.slice qo (iA.length + 64) qc) (iA.length + 64) (strM ql)) := own_on8 HGq28.out bb
  have HGr29 : Hid (W29.ownsRow U3 9 1 (.slice ro (iB.length + 64) rc) (iB.length + 64) (strM rl)) := own_on8 HGr28.out bb
  have HGs29 : Hid (W29.ownsRow U3 9 1 (.slice so (fB.length + 64) sc) (fB.length + 64) (strM sl)) := own_on8 HGs28.out bb
  clear bb
  go_wp2_with fail
  refine (marked8_c _ pl ⟨#[111, 110, 101]⟩ _ U1 (by rw [HMp.out.1]; exact HGp29.out) HMp.out.2 (by rw [HMp.out.1]; have := HLa.out; omega) (by rw [HMp.out.1]; omega) (by decide)).mono ?_
  rintro e wA ⟨rfl, hw⟩
  subst hw
  go_wp2_with fail
  refine (marked8_c _ ql ⟨#[116, 119, 111]⟩ _ U1 (by rw [HMq.out.1]; exact HGq29.out) HMq.out.2 (by rw [HMq.out.1]; have := HLa.out; omega) (by rw [HMq.out.1]; omega) (by decide)).mono ?_
  rintro e wA ⟨rfl, hw⟩
  subst hw
  go_wp2_with fail
  refine (marked8_c _ rl ⟨#[116, 104, 114, 101, 101]⟩ _ U3 (by rw [HMr.out.1]; exact HGr29.out) HMr.out.2 (by rw [HMr.out.1]; have := HLb.out; omega) (by rw [HMr.out.1]; omega) (by decide)).mono ?_
  rintro e wA ⟨rfl, hw⟩
  subst hw
  go_wp2_with fail
  refine (marked8_c _ sl ⟨#[102, 111, 117, 114]⟩ _ U3 (by rw [HMs.out.1]; exact HGs29.out) HMs.out.2 (by rw [HMs.out.1]; have := HLb.out; omega) (by rw [HMs.out.1]; omega) (by decide)).mono ?_
  rintro e wA ⟨rfl, hw⟩
  subst hw
  go_wp2
  go_ret
  exact ⟨rfl, HK29.out.low⟩
end Go.Proofs.YtlobgecincppkaaDoor
