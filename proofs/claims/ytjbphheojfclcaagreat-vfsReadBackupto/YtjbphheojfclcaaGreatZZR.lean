
-- VfsReadBack's walk.
import Derived.Test.YtjbphheojfclcaaGreatZZP
import Derived.Deep.CutRange
namespace Go.Proofs.YtjbphheojfclcaaGreat
open Go.ChangeShapes Go.WideShapes Go.ChangeAt Go.RowKit
set_option linter.unusedVariables false
set_option maxRecDepth 100000
variable {PS : (Nat → Prop) → Nat → St → World → Prop}
attribute [local go_sem ↓] Go.wp_at_zero Go.wp_at_succ
def catB (l : List ByteArray) : ByteArray := l.foldl (· ++ ·) ⟨#[]⟩
theorem catB_take (l : List ByteArray) (k : Nat) (h : k < l.length) : catB (l.take (k + 1)) = catB (l.take k) ++ l.getD k .empty := by
  unfold catB
  rw [List.take_add_one, List.getElem?_eq_getElem h, List.foldl_append]
  simp [List.getD, List.getElem?_eq_getElem h]
theorem catB_size (l : List ByteArray) : (catB l).size = (l.map ByteArray.size).sum := by
  have key : ∀ (l : List ByteArray) (a : ByteArray), (l.foldl (· ++ ·) a).size = a.size + (l.map ByteArray.size).sum := by
    intro l
    induction l with
    | nil => intro a; simp
    | cons x r ih => intro a; rw [List.foldl_cons, ih, ByteArray.size_append]; simp; omega
  have := key l ⟨#[]⟩
  unfold catB
  rw [this]
  show 0 + _ = _
  omega
theorem sum_take_le (l : List ByteArray) (k : Nat) : ((l.take k).map ByteArray.size).sum ≤ (l.map ByteArray.size).sum := by
  conv => rhs; rw [← List.take_append_drop k l]
  rw [List.map_append, List.sum_append_nat]
  omega
set_option maxRecDepth 20000 in
set_option maxHeartbeats 16000000 in
theorem back_w (C : PC PS) (nm : ByteArray) (m0 m1 m2 m3 : Int) (pv : Value) (ps : List ByteArray) (w : World) (hnm : nm.size ≤ 1048576) (rs : RowS w pv ps) (hz : (ps.map ByteArray.size).sum ≤ 1048576) (hl : ps.length ≤ 1048576) :
    Calls Tryz.prog 3 #[.string nm, .agg #[.int .i64 m0, .int .i64 m1, .int .i64 m2, .int .i64 m3], pv] w fun e w' => e = .returned (.bool true) ∧ Below w.heap.size w w' := by
  obtain ⟨W0, hW0⟩ : ∃ W0, W0 = w.alloc (.cells #[.int .i64 m0, .int .i64 m1, .int .i64 m2, .int .i64 m3] 23) := ⟨_, rfl⟩
  have hbA : Below w.heap.size w W0 := by rw [hW0]; exact (Below.refl _ w).alloc (Nat.le_refl _) _
  have HW0 : Hid (W0 = w.alloc (.cells #[.int .i64 m0, .int .i64 m1, .int .i64 m2, .int .i64 m3] 23) ∧ Below w.heap.size w W0 ∧ W0.heap.size = w.heap.size + 1 ∧ W0.heap[w.heap.size]? = some (.cells #[.int .i64 m0, .int .i64 m1, .int .i64 m2, .int .i64 m3] 23 (0, 0))) := ⟨hW0, hbA, by rw [hW0]; simp, by rw [hW0]; exact heap_alloc_new _ _⟩
  obtain ⟨ao, cp, rfl⟩ := rs.form
  obtain ⟨n, hn⟩ : ∃ n, n = ps.length := ⟨_, rfl⟩
  have HRS : Hid (RowS w (.slice ao ps.length cp) ps) := rs
  rw [← hn]
  have HCE : Hid (∀ k, k < n → ∃ b off, ao = some ⟨b, off, none⟩ ∧ b < w.heap.size ∧ w.cell? ⟨b, off + k, none⟩ = some (.string (ps.getD k .empty))) := by
    intro k hk
    rcases HRS.out with ⟨h0, _⟩ | ⟨b, off, cap, hv, hc⟩
    · rw [h0] at hn; simp at hn; omega
    · cases hv
      have := hc k (by omega)
      exact ⟨b, off, rfl, World.block_lt_of_cell? w _ this, this⟩
  have HPS : Hid (n = ps.length ∧ n ≤ 1048576 ∧ (ps.map ByteArray.size).sum ≤ 1048576 ∧ nm.size ≤ 1048576) := ⟨hn, by omega, hz, hnm⟩
  have HTK : Hid (∀ k, k < n → catB (ps.take (k + 1)) = catB (ps.take k) ++ ps.getD k .empty ∧ (catB (ps.take k)).size + (ps.getD k .empty).size ≤ (catB ps).size ∧ (catB ps).size ≤ 1048576) := fun k hk => by
    have h1 := catB_take ps k (by omega)
    have h2 := congrArg ByteArray.size h1
    rw [ByteArray.size_append, catB_size] at h2
    have h3 := sum_take_le ps (k + 1)
    have h4 := catB_size ps
    exact ⟨h1, by rw [h4]; omega, by rw [h4]; exact hz⟩
  have HCS : Hid ((catB ps).size ≤ 1048576 ∧ catB (ps.take n) = catB ps) := ⟨by rw [catB_size]; exact hz, by rw [hn, List.take_length]⟩
  have hnb : n ≤ 1048576 := by omega
  clear hW0 hbA rs hn hz hl hnm
  go_enter Tryz.func3, Tryz.ntmps3
  go_upto_region 1 with fail
  rw [← HW0.out.1]
  go_wp2_with fail
  go_loopw [7, 8] (fun wh i wr => ∃ k : Nat, i = .int .i64 k ∧ k ≤ n ∧ wh = .string (catB (ps.take k)) ∧ wr = W0) (fun _ i _ => n - (intOf i).toNat)
  case atStart => exact ⟨0, rfl, Nat.zero_le _, rfl, rfl⟩
  case round =>
    obtain ⟨k, rfl, hkn, rfl, hwr⟩ := hrel
    subst wr
    by_cases hk : k < n
    · obtain ⟨b, off, rfl, hbl, hc⟩ := HCE.out k hk
      have hc0 := cell_below HW0.out.2.1 hc
      obtain ⟨h1, h2, h3⟩ := HTK.out k hk
      obtain ⟨p, hp⟩ : ∃ p, p = ps.getD k .empty := ⟨_, rfl⟩
      obtain ⟨q, hq⟩ : ∃ q, q = catB (ps.take k) := ⟨_, rfl⟩
      rw [← hp] at hc0 h2
      rw [← hq] at h2 ⊢
      have hqp : q.size + p.size ≤ 1048576 := by omega
      have HQ : Hid (catB (ps.take (k + 1)) = q ++ p) := by rw [hp, hq]; exact h1
      have b1 : decide ((k : Int) < (n : Int)) = true := by simp; omega
      have i1 : (k : Int) < (n : Int) := by omega
      have i2 : (0 : Int) ≤ (k : Int) := by omega
      clear hc h1 h2 h3 hp hq
      go_wp2
      go_roundw
      case rel => exact ⟨k + 1, by go_num, by omega, by rw [HQ.out], by first | rfl | trivial⟩
      case measure => simp [intOf]; omega
    · obtain rfl : n = k := by omega
      have b1 : decide ((n : Int) < (n : Int)) = false := by simp
      rw [HCS.out.2]
      obtain ⟨wh, hwh⟩ : ∃ wh, wh = catB ps := ⟨_, rfl⟩
      rw [← hwh]
      have HWH : Hid (wh = catB ps ∧ wh.size ≤ 1048576) := ⟨hwh, by rw [hwh]; exact HCS.out.1⟩
      have HG : Hid (∀ W, Calls Tryz.prog 9 #[.int .i64 (wh.size : Int)] W fun e w' => e = .returned (.bool true) ∧ w' = W) := fun W => good_yes wh.size (by have := HWH.out.2; omega) W
      have HN : Hid (Calls Tryz.prog 10 #[.int .i64 (wh.size : Int)] W0 fun e w' => ∃ vb, e = .returned (.pointer (some ⟨vb, 0, none⟩)) ∧ OneS PS vb (Vl.new wh.size) w [w.heap.size] w' ∧ w'.heap[w.heap.size]? = some (.cells #[.int .i64 m0, .int .i64 m1, .int .i64 m2, .int .i64 m3] 23 (0, 0))) := by
        refine (open_c C wh.size W0 (by have := HWH.out.2; omega)).mono ?_
        rintro e w' ⟨vb, rfl, h1, h2⟩
        have hs0 := HW0.out.2.2.1
        have hs2 := h2.size
        refine ⟨vb, rfl, ⟨_, h1, fun k hk => by have := hk.1; omega, fun r hr => ?_, HW0.out.2.1.trans (h2.mono (by omega))⟩, (h2.block _ (by omega)).trans HW0.out.2.2.2⟩
        simp only [List.mem_singleton] at hr
        subst hr
        exact ⟨fun h => by have := h.1; omega, by omega⟩
      have HFN : Hid (∀ W, Calls Tryz.prog 12 #[.string nm] W fun e w' => e = .returned (.bool (okName nm)) ∧ w' = W) := fun W => lawName_c nm W (by have := HPS.out.2.2.2; omega)
      have HVF : Hid (Vlf (Vl.new wh.size) 0) := Vlf.new wh.size (by have := HWH.out.2; omega)
      clear hwh
      go_upto_region 6 with fail
      go_wp2_with fail
      go_at_call 9
      refine (HG.out _).mono ?_
      rintro e w9 ⟨rfl, hw9⟩
      subst w9
      go_wp2_with fail
      go_at_call 10
      refine HN.out.mono ?_
      rintro e w1 ⟨va, rfl, ho1, hm1⟩
      have HO1 : Hid (OneS PS va (Vl.new wh.size) w [w.heap.size] w1 ∧ w1.heap[w.heap.size]? = some (.cells #[.int .i64 m0, .int .i64 m1, .int .i64 m2, .int .i64 m3] 23 (0, 0))) := ⟨ho1, hm1⟩
      obtain ⟨x0, x1, x2, x3⟩ := at4 hm1
      clear ho1 hm1 HN HG
      cases hok : okName nm with
      | false =>
        rw [hok] at HFN
        have HOK : Hid (okName nm = false) := hok
        clear hok
        have HC1 : Hid (Calls Tryz.prog 11 #[.pointer (some ⟨va, 0, none⟩), .agg #[.int .i64 4, .int .i64 0, .string nm, .string ⟨#[]⟩, .int .i64 m0, .int .i64 m1, .int .i64 m2, .int .i64 m3, .slice none 0 0, .slice none 0 0]] w1 fun e w' => ∃ ao c, e = .returned (.agg #[.string ⟨#[]⟩, .int .i64 0, .int .i64 0, .int .i64 0, .int .i64 0, .int .i64 0, .string ⟨#[]⟩, .int .i64 0, .slice ao 0 c, .bool true, .bool false, .string opCreate, .string nm, .int .i64 32]) ∧ OneS PS va ⟨⟨St.new wh.size, [], 1, false, 0⟩, []⟩ w [w.heap.size] w' ∧ Vlf ⟨⟨St.new wh.size, [], 1, false, 0⟩, []⟩ 1) := by
          refine (HO1.out.1.step C HVF.out (by omega) (opm nm m0 m1 m2 m3) ⟨⟨_, _, _, rfl⟩, ⟨_, _, _, rfl⟩, by show nm.size ≤ _; have := HPS.out.2.2.2; omega⟩ (Prod.ext (bad_create wh.size nm HOK.out m0 m1 m2 m3).1 (bad_create wh.size nm HOK.out m0 m1 m2 m3).2)).mono ?_
          rintro e w' ⟨ao, c, rfl, g1, g2, -⟩
          exact ⟨ao, c, rfl, g1, g2⟩
        have HREF : Hid (∀ (op : ByteArray) (ao : Option Addr) (c : Nat) (W : World), Calls Tryz.prog 13 #[.agg #[.string ⟨#[]⟩, .int .i64 0, .int .i64 0, .int .i64 0, .int .i64 0, .int .i64 0, .string ⟨#[]⟩, .int .i64 0, .slice ao 0 c, .bool true, .bool false, .string op, .string nm, .int .i64 32], .int .i64 32, .int .i64 0] W fun r w' => r = .returned (.bool true) ∧ Below W.heap.size W w') := fun op ao c W => refused_c op nm 32 0 ao c W
        go_wp2_with fail
        go_at_call 11
        refine Calls.mono HC1.out ?_
        rintro r w2 ⟨ao1, c1, rfl, ho2, hv2⟩
        obtain ⟨W2, hW2⟩ : ∃ W2, W2 = w2.alloc (.cells #[.string ⟨#[]⟩, .int .i64 0, .int .i64 0, .int .i64 0, .int .i64 0, .int .i64 0, .string ⟨#[]⟩, .int .i64 0, .slice ao1 0 c1, .bool true, .bool false, .string opCreate, .string nm, .int .i64 32] 34) := ⟨_, rfl⟩
        have HW2 : Hid (W2 = w2.alloc (.cells #[.string ⟨#[]⟩, .int .i64 0, .int .i64 0, .int .i64 0, .int .i64 0, .int .i64 0, .string ⟨#[]⟩, .int .i64 0, .slice ao1 0 c1, .bool true, .bool false, .string opCreate, .string nm, .int .i64 32] 34)) := hW2
        have HF2 : Hid (OneS PS va ⟨⟨St.new wh.size, [], 1, false, 0⟩, []⟩ w [w2.heap.size, w.heap.size] W2 ∧ Vlf ⟨⟨St.new wh.size, [], 1, false, 0⟩, []⟩ 1 ∧ W2.heap[w2.heap.size]? = some (.cells #[.string ⟨#[]⟩, .int .i64 0, .int .i64 0, .int .i64 0, .int .i64 0, .int .i64 0, .string ⟨#[]⟩, .int .i64 0, .slice ao1 0 c1, .bool true, .bool false, .string opCreate, .string nm, .int .i64 32] 34 (0, 0))) := by
          have hbox := ho2.box C (.cells #[.string ⟨#[]⟩, .int .i64 0, .int .i64 0, .int .i64 0, .int .i64 0, .int .i64 0, .string ⟨#[]⟩, .int .i64 0, .slice ao1 0 c1, .bool true, .bool false, .string opCreate, .string nm, .int .i64 32] 34)
          rw [← hW2] at hbox
          exact ⟨hbox, hv2, by rw [hW2]; exact new_at rfl⟩
        have HC2 : Hid (Calls Tryz.prog 11 #[.pointer (some ⟨va, 0, none⟩), .agg #[.int .i64 1, .int .i64 0, .string nm, .string ⟨#[]⟩, .int .i64 0, .int .i64 0, .int .i64 0, .int .i64 0, .slice none 0 0, .slice none 0 0]] W2 fun e w' => ∃ ao c, e = .returned (.agg #[.string ⟨#[]⟩, .int .i64 0, .int .i64 0, .int .i64 0, .int .i64 0, .int .i64 0, .string ⟨#[]⟩, .int .i64 0, .slice ao 0 c, .bool true, .bool false, .string opRead, .string nm, .int .i64 32]) ∧ OneS PS va ⟨⟨St.new wh.size, [], 2, false, 0⟩, []⟩ w [w2.heap.size, w.heap.size] w' ∧ w'.heap[w2.heap.size]? = some (.cells #[.string ⟨#[]⟩, .int .i64 0, .int .i64 0, .int .i64 0, .int .i64 0, .int .i64 0, .string ⟨#[]⟩, .int .i64 0, .slice ao1 0 c1, .bool true, .bool false, .string opCreate, .string nm, .int .i64 32] 34 (0, 0))) := by
          obtain ⟨h1, h2, h3⟩ := HF2.out
          refine (h1.step C h2 (by omega) (opk 1 nm) (opk_ok _ _ (by have := HPS.out.2.2.2; omega)) (Prod.ext (bad_read wh.size nm HOK.out).1 (bad_read wh.size nm HOK.out).2)).mono ?_
          rintro e w' ⟨ao, c, rfl, g1, g2, g3, -⟩
          exact ⟨ao, c, rfl, g1, (g3 _ (by simp)).trans h3⟩
        clear ho2 hv2 hW2 HC1 x0 x1 x2 x3
        go_upto_region 11 with fail
        rw [← HW2.out]
        go_wp2_with (first
          | (go_at_call 12; refine (HFN.out _).mono ?_; rintro e w3 ⟨rfl, hw3⟩; subst w3))
        go_at_call 11
        refine Calls.mono HC2.out ?_
        rintro r w4 ⟨ao4, c4, rfl, ho4, hx4⟩
        obtain ⟨W4, hW4⟩ : ∃ W4, W4 = w4.alloc (.cells #[.string ⟨#[]⟩, .int .i64 0, .int .i64 0, .int .i64 0, .int .i64 0, .int .i64 0, .string ⟨#[]⟩, .int .i64 0, .slice ao4 0 c4, .bool true, .bool false, .string opRead, .string nm, .int .i64 32] 34) := ⟨_, rfl⟩
        have HW4 : Hid (W4 = w4.alloc (.cells #[.string ⟨#[]⟩, .int .i64 0, .int .i64 0, .int .i64 0, .int .i64 0, .int .i64 0, .string ⟨#[]⟩, .int .i64 0, .slice ao4 0 c4, .bool true, .bool false, .string opRead, .string nm, .int .i64 32] 34)) := hW4
        have HF4 : Hid (OneS PS va ⟨⟨St.new wh.size, [], 2, false, 0⟩, []⟩ w [w4.heap.size, w2.heap.size, w.heap.size] W4 ∧ W4.heap[w4.heap.size]? = some (.cells #[.string ⟨#[]⟩, .int .i64 0, .int .i64 0, .int .i64 0, .int .i64 0, .int .i64 0, .string ⟨#[]⟩, .int .i64 0, .slice ao4 0 c4, .bool true, .bool false, .string opRead, .string nm, .int .i64 32] 34 (0, 0))) := by
          have hbox := ho4.box C (.cells #[.string ⟨#[]⟩, .int .i64 0, .int .i64 0, .int .i64 0, .int .i64 0, .int .i64 0, .string ⟨#[]⟩, .int .i64 0, .slice ao4 0 c4, .bool true, .bool false, .string opRead, .string nm, .int .i64 32] 34)
          rw [← hW4] at hbox
          exact ⟨hbox, by rw [hW4]; exact new_at rfl⟩
        obtain ⟨⟨y0, y1, y2, y3, y4, y5, y6, y7, y8, y9, y10, y11, y12, y13⟩, -⟩ := at14 (show W4.heap[w2.heap.size]? = some (.cells #[.string ⟨#[]⟩, .int .i64 0, .int .i64 0, .int .i64 0, .int .i64 0, .int .i64 0, .string ⟨#[]⟩, .int .i64 0, .slice ao1 0 c1, .bool true, .bool false, .string opCreate, .string nm, .int .i64 32] 34 (0, 0)) by
          have hb : Below w4.heap.size w4 W4 := by rw [hW4]; exact (Below.refl _ w4).alloc (Nat.le_refl _) _
          exact (hb.block _ (Array.getElem?_eq_some_iff.1 hx4).1).trans hx4)
        clear ho4 hx4 hW4 HC2
        go_upto_region 14 with fail
        rw [← HW4.out]
        go_wp2_with fail
        go_at_call 13
        refine (HREF.out _ _ _ _).mono ?_
        rintro e w5 ⟨rfl, hb5⟩
        have HF5 : Hid (OneS PS va ⟨⟨St.new wh.size, [], 2, false, 0⟩, []⟩ w [w4.heap.size, w2.heap.size, w.heap.size] w5) := HF4.out.1.below C hb5
        obtain ⟨⟨z0, z1, z2, z3, z4, z5, z6, z7, z8, z9, z10, z11, z12, z13⟩, -⟩ := at14 ((hb5.block _ (Array.getElem?_eq_some_iff.1 HF4.out.2).1).trans HF4.out.2)
        clear hb5 y0 y1 y2 y3 y4 y5 y6 y7 y8 y9 y10 y11 y12 y13
        go_wp2_with fail
        go_at_call 13
        refine (HREF.out _ _ _ _).mono ?_
        rintro e w6 ⟨rfl, hb6⟩
        have HF6 : Hid (OneS PS va ⟨⟨St.new wh.size, [], 2, false, 0⟩, []⟩ w [w4.heap.size, w2.heap.size, w.heap.size] w6) := HF5.out.below C hb6
        obtain ⟨aoh, ch, hlh⟩ : ∃ aoh ch, w6.cell? ⟨va, 1, none⟩ = some (.slice aoh 0 ch) := HF6.out.len
        clear hb6 z0 z1 z2 z3 z4 z5 z6 z7 z8 z9 z10 z11 z12 z13
        go_wp2
        go_returns
        exact ⟨rfl, HF6.out.blw⟩
      | true =>
        rw [hok] at HFN
        have HOK : Hid (okName nm = true) := hok
        clear hok
        have HC1 : Hid (Calls Tryz.prog 11 #[.pointer (some ⟨va, 0, none⟩), .agg #[.int .i64 4, .int .i64 0, .string nm, .string ⟨#[]⟩, .int .i64 m0, .int .i64 m1, .int .i64 m2, .int .i64 m3, .slice none 0 0, .slice none 0 0]] w1 fun e w' => ∃ ao c, e = .returned (.agg #[.string ⟨#[]⟩, .int .i64 1, .int .i64 0, .int .i64 0, .int .i64 0, .int .i64 0, .string ⟨#[]⟩, .int .i64 0, .slice ao 0 c, .bool false, .bool false, .string ⟨#[]⟩, .string ⟨#[]⟩, .int .i64 0]) ∧ OneS PS va (oneVl wh.size 1 nm ⟨#[]⟩ m0 m1 m2 m3) w [w.heap.size] w' ∧ Vlf (oneVl wh.size 1 nm ⟨#[]⟩ m0 m1 m2 m3) 1 ∧ w'.heap[w.heap.size]? = some (.cells #[.int .i64 m0, .int .i64 m1, .int .i64 m2, .int .i64 m3] 23 (0, 0))) := by
          refine (HO1.out.1.step C HVF.out (by omega) (opm nm m0 m1 m2 m3) ⟨⟨_, _, _, rfl⟩, ⟨_, _, _, rfl⟩, by show nm.size ≤ _; have := HPS.out.2.2.2; omega⟩ (one_create wh.size nm HOK.out m0 m1 m2 m3)).mono ?_
          rintro e w' ⟨ao, c, rfl, g1, g2, g3, -⟩
          exact ⟨ao, c, rfl, g1, g2, (g3 _ (by simp)).trans HO1.out.2⟩
        go_wp2_with fail
        go_at_call 11
        refine Calls.mono HC1.out ?_
        rintro r w2 ⟨ao1, c1, rfl, ho2, hv2, hm2⟩
        obtain ⟨W2, hW2⟩ : ∃ W2, W2 = w2.alloc (.cells #[.string ⟨#[]⟩, .int .i64 1, .int .i64 0, .int .i64 0, .int .i64 0, .int .i64 0, .string ⟨#[]⟩, .int .i64 0, .slice ao1 0 c1, .bool false, .bool false, .string ⟨#[]⟩, .string ⟨#[]⟩, .int .i64 0] 34) := ⟨_, rfl⟩
        have HW2 : Hid (W2 = w2.alloc (.cells #[.string ⟨#[]⟩, .int .i64 1, .int .i64 0, .int .i64 0, .int .i64 0, .int .i64 0, .string ⟨#[]⟩, .int .i64 0, .slice ao1 0 c1, .bool false, .bool false, .string ⟨#[]⟩, .string ⟨#[]⟩, .int .i64 0] 34)) := hW2
        have hx2 : W2.heap[w2.heap.size]? = some (.cells #[.string ⟨#[]⟩, .int .i64 1, .int .i64 0, .int .i64 0, .int .i64 0, .int .i64 0, .string ⟨#[]⟩, .int .i64 0, .slice ao1 0 c1, .bool false, .bool false, .string ⟨#[]⟩, .string ⟨#[]⟩, .int .i64 0] 34 (0, 0)) := by rw [hW2]; exact new_at rfl
        have HS2 : Hid (BackS PS va w2.heap.size wh.size 1 nm ⟨#[]⟩ m0 m1 m2 m3 w W2) := by
          have hb : Below w2.heap.size w2 W2 := by rw [hW2]; exact (Below.refl _ w2).alloc (Nat.le_refl _) _
          have hlt := (Array.getElem?_eq_some_iff.1 hm2).1
          have hbox := ho2.box C (.cells #[.string ⟨#[]⟩, .int .i64 1, .int .i64 0, .int .i64 0, .int .i64 0, .int .i64 0, .string ⟨#[]⟩, .int .i64 0, .slice ao1 0 c1, .bool false, .bool false, .string ⟨#[]⟩, .string ⟨#[]⟩, .int .i64 0] 34)
          rw [← hW2] at hbox
          exact ⟨hbox, hv2, by omega, (hb.block _ hlt).trans hm2, _, rfl, hx2⟩
        obtain ⟨aoh, ch, hlh⟩ : ∃ aoh ch, W2.cell? ⟨va, 1, none⟩ = some (.slice aoh 1 ch) := HS2.out.1.len
        obtain ⟨⟨y0, y1, y2, y3, y4, y5, y6, y7, y8, y9, y10, y11, y12, y13⟩, -⟩ := at14 hx2
        clear ho2 hv2 hm2 hW2 hx2 HC1 x0 x1 x2 x3
        go_upto_region 11 with fail
        rw [← HW2.out]
        go_wp2_with (go_at_call 12; refine (HFN.out _).mono ?_; rintro e w3 ⟨rfl, hw3⟩; subst w3)
        obtain ⟨ra, hra⟩ : ∃ ra, ra = w2.heap.size := ⟨_, rfl⟩
        rw [← hra] at HS2 ⊢
        clear y0 y1 y2 y3 y4 y5 y6 y7 y8 y9 y10 y11 y12 y13 hlh hra
        have hnb2 : n ≤ 1048576 := HPS.out.2.1
        go_loopw [16] (fun i wr => ∃ k : Nat, i = .int .i64 k ∧ k ≤ n ∧ BackS PS va ra wh.size (1 + k) nm (catB (ps.take k)) m0 m1 m2 m3 w wr) (fun i _ => n - (intOf i).toNat)
        case atStart => exact ⟨0, rfl, Nat.zero_le _, HS2.out⟩
        case round =>
          obtain ⟨k, rfl, hkn, hsr⟩ := hrel
          have HSR : Hid (BackS PS va ra wh.size (1 + k) nm (catB (ps.take k)) m0 m1 m2 m3 w wr) := hsr
          by_cases hk : k < n
          · obtain ⟨b, off, rfl, hbl, hc⟩ := HCE.out k hk
            obtain ⟨h1, h2, h3⟩ := HTK.out k hk
            obtain ⟨p, hp⟩ : ∃ p, p = ps.getD k .empty := ⟨_, rfl⟩
            rw [← hp] at hc h1 h2
            have HCW : Hid (Calls Tryz.prog 11 #[.pointer (some ⟨va, 0, none⟩), .agg #[.int .i64 8, .int .i64 0, .string p, .string ⟨#[]⟩, .int .i64 0, .int .i64 0, .int .i64 0, .int .i64 0, .slice none 0 0, .slice none 0 0]] wr fun e w' => ∃ ao c, e = .returned (.agg #[.string ⟨#[]⟩, .int .i64 (p.size : Int), .int .i64 0, .int .i64 0, .int .i64 0, .int .i64 0, .string ⟨#[]⟩, .int .i64 0, .slice ao 0 c, .bool false, .bool false, .string ⟨#[]⟩, .string ⟨#[]⟩, .int .i64 0]) ∧ BackS PS va ra wh.size (1 + (k + 1)) nm (catB (ps.take (k + 1))) m0 m1 m2 m3 w w') := by
              rw [h1]
              exact hsr.write C (by omega) p (by omega) (by rw [HWH.out.1]; exact h2)
            have hc0 := cell_below hsr.1.blw hc
            have HCB : Hid (∀ W, Below w.heap.size w W → W.cell? ⟨b, off + k, none⟩ = some (.string p)) := fun W hW => cell_below hW hc
            have b1 : decide ((k : Int) < (n : Int)) = true := by simp; omega
            have i1 : (k : Int) < (n : Int) := by omega
            have i2 : (0 : Int) ≤ (k : Int) := by omega
            clear hc h1 h2 h3 hp hsr HSR
            go_wp2_with fail
            go_at_call 11
            refine Calls.mono HCW.out ?_
            rintro r w3 ⟨ao4, c4, rfl, hs3⟩
            obtain ⟨hs4, hx4⟩ := hs3.put C #[.string ⟨#[]⟩, .int .i64 (p.size : Int), .int .i64 0, .int .i64 0, .int .i64 0, .int .i64 0, .string ⟨#[]⟩, .int .i64 0, .slice ao4 0 c4, .bool false, .bool false, .string ⟨#[]⟩, .string ⟨#[]⟩, .int .i64 0] rfl
            have hc4 := HCB.out _ hs4.1.blw
            have HS4 : Hid (BackS PS va ra wh.size (1 + (k + 1)) nm (catB (ps.take (k + 1))) m0 m1 m2 m3 w (w3.setRow ra #[.string ⟨#[]⟩, .int .i64 (p.size : Int), .int .i64 0, .int .i64 0, .int .i64 0, .int .i64 0, .string ⟨#[]⟩, .int .i64 0, .slice ao4 0 c4, .bool false, .bool false, .string ⟨#[]⟩, .string ⟨#[]⟩, .int .i64 0])) := hs4
            obtain ⟨-, -, -, -, old, ho3, hx3⟩ := hs3
            obtain ⟨⟨y0, y1, y2, y3, y4, y5, y6, y7, y8, y9, y10, y11, y12, y13⟩, -⟩ := at14 hx4
            have b2 : (((p.size : Int)) != ((p.size : Int))) = false := by simp
            clear hs4 hx4 hc0 HCW
            go_wp2_with (refine wpList_store_row rfl 34 _ _ rfl ra #[.string ⟨#[]⟩, .int .i64 (p.size : Int), .int .i64 0, .int .i64 0, .int .i64 0, .int .i64 0, .string ⟨#[]⟩, .int .i64 0, .slice ao4 0 c4, .bool false, .bool false, .string ⟨#[]⟩, .string ⟨#[]⟩, .int .i64 0] rfl rfl _ _ hx3 sizeAns ho3 (by simp [Value.oneCell']) ?_)
            go_quiet (fail)
            go_wp2
            go_roundw
            case rel => exact ⟨k + 1, by go_num, by omega, HS4.out.below C (below_drewN' _ _)⟩
            case measure => simp [intOf]; omega
          · obtain rfl : n = k := by omega
            have b1 : decide ((n : Int) < (n : Int)) = false := by simp
            rw [HCS.out.2, ← HWH.out.1] at hsr
            have HFU : Hid (Calls Tryz.prog 11 #[.pointer (some ⟨va, 0, none⟩), .agg #[.int .i64 8, .int .i64 0, .string ⟨#[120]⟩, .string ⟨#[]⟩, .int .i64 0, .int .i64 0, .int .i64 0, .int .i64 0, .slice none 0 0, .slice none 0 0]] wr fun e w' => ∃ ao c, e = .returned (.agg #[.string ⟨#[]⟩, .int .i64 0, .int .i64 0, .int .i64 0, .int .i64 0, .int .i64 0, .string ⟨#[]⟩, .int .i64 0, .slice ao 0 c, .bool true, .bool false, .string opWrite, .string nm, .int .i64 31]) ∧ BackS PS va ra wh.size (1 + n + 1) nm wh m0 m1 m2 m3 w w') := hsr.full C (by omega) ⟨#[120]⟩ (by decide) (by decide) (by show _ < wh.size + 1; omega)
            have HREF : Hid (∀ (ao : Option Addr) (c : Nat) (W : World), Calls Tryz.prog 13 #[.agg #[.string ⟨#[]⟩, .int .i64 0, .int .i64 0, .int .i64 0, .int .i64 0, .int .i64 0, .string ⟨#[]⟩, .int .i64 0, .slice ao 0 c, .bool true, .bool false, .string opWrite, .string nm, .int .i64 31], .int .i64 31, .int .i64 0] W fun r w' => r = .returned (.bool true) ∧ Below W.heap.size W w') := fun ao c W => refused_c opWrite nm 31 0 ao c W
            clear hsr HSR HTK HCE HCS
            go_wp2_with fail
            go_at_call 11
            refine Calls.mono HFU.out ?_
            rintro r w3 ⟨ao4, c4, rfl, hs3⟩
            obtain ⟨hs4, hx4⟩ := hs3.put C #[.string ⟨#[]⟩, .int .i64 0, .int .i64 0, .int .i64 0, .int .i64 0, .int .i64 0, .string ⟨#[]⟩, .int .i64 0, .slice ao4 0 c4, .bool true, .bool false, .string opWrite, .string nm, .int .i64 31] rfl
            have HS4 : Hid (BackS PS va ra wh.size (1 + n + 1) nm wh m0 m1 m2 m3 w (w3.setRow ra #[.string ⟨#[]⟩, .int .i64 0, .int .i64 0, .int .i64 0, .int .i64 0, .int .i64 0, .string ⟨#[]⟩, .int .i64 0, .slice ao4 0 c4, .bool true, .bool false, .string opWrite, .string nm, .int .i64 31])) := hs4
            obtain ⟨-, -, -, -, old, ho3, hx3⟩ := hs3
            obtain ⟨⟨y0, y1, y2, y3, y4, y5, y6, y7, y8, y9, y10, y11, y12, y13⟩, -⟩ := at14 hx4
            clear hs4 hx4 HFU
            go_wp2_with (refine wpList_store_row rfl 34 _ _ rfl ra #[.string ⟨#[]⟩, .int .i64 0, .int .i64 0, .int .i64 0, .int .i64 0, .int .i64 0, .string ⟨#[]⟩, .int .i64 0, .slice ao4 0 c4, .bool true, .bool false, .string opWrite, .string nm, .int .i64 31] rfl rfl _ _ hx3 sizeAns ho3 (by simp [Value.oneCell']) ?_)
            go_at_call 13
            refine (HREF.out _ _ _).mono ?_
            rintro e w5 ⟨rfl, hb5⟩
            have HS5 : Hid (BackS PS va ra wh.size (1 + n + 1) nm wh m0 m1 m2 m3 w w5) := HS4.out.below C hb5
            clear hb5 hx3 y0 y1 y2 y3 y4 y5 y6 y7 y8 y9 y10 y11 y12 y13
            have HC5 : Hid (Calls Tryz.prog 11 #[.pointer (some ⟨va, 0, none⟩), .agg #[.int .i64 1, .int .i64 0, .string nm, .string ⟨#[]⟩, .int .i64 0, .int .i64 0, .int .i64 0, .int .i64 0, .slice none 0 0, .slice none 0 0]] w5 fun e w' => ∃ ao c, e = .returned (.agg #[.string wh, .int .i64 0, .int .i64 0, .int .i64 0, .int .i64 0, .int .i64 0, .string ⟨#[]⟩, .int .i64 0, .slice ao 0 c, .bool false, .bool false, .string ⟨#[]⟩, .string ⟨#[]⟩, .int .i64 0]) ∧ OneS PS va (oneVl wh.size (1 + n + 2) nm wh m0 m1 m2 m3) w [ra, w.heap.size] w' ∧ Vlf (oneVl wh.size (1 + n + 2) nm wh m0 m1 m2 m3) (1 + n + 2) ∧ w'.heap[w.heap.size]? = some (.cells #[.int .i64 m0, .int .i64 m1, .int .i64 m2, .int .i64 m3] 23 (0, 0))) := by
              obtain ⟨h1, h2, h3, h4, -⟩ := HS5.out
              refine (h1.step C h2 (by omega) (opk 1 nm) (opk_ok _ _ (by have := HPS.out.2.2.2; omega)) (one_read _ _ _ _ HOK.out m0 m1 m2 m3)).mono ?_
              rintro e w' ⟨ao, c, rfl, g1, g2, g3, -⟩
              exact ⟨ao, c, rfl, g1, g2, (g3 _ (by simp)).trans h4⟩
            go_wp2_with fail
            go_at_call 11
            refine Calls.mono HC5.out ?_
            rintro r w6 ⟨ao6, c6, rfl, ho6, hv6, hm6⟩
            obtain ⟨W6, hW6⟩ : ∃ W6, W6 = w6.alloc (.cells #[.string wh, .int .i64 0, .int .i64 0, .int .i64 0, .int .i64 0, .int .i64 0, .string ⟨#[]⟩, .int .i64 0, .slice ao6 0 c6, .bool false, .bool false, .string ⟨#[]⟩, .string ⟨#[]⟩, .int .i64 0] 34) := ⟨_, rfl⟩
            have HW6 : Hid (W6 = w6.alloc (.cells #[.string wh, .int .i64 0, .int .i64 0, .int .i64 0, .int .i64 0, .int .i64 0, .string ⟨#[]⟩, .int .i64 0, .slice ao6 0 c6, .bool false, .bool false, .string ⟨#[]⟩, .string ⟨#[]⟩, .int .i64 0] 34)) := hW6
            have HF6 : Hid (OneS PS va (oneVl wh.size (1 + n + 2) nm wh m0 m1 m2 m3) w [w6.heap.size, ra, w.heap.size] W6 ∧ Vlf (oneVl wh.size (1 + n + 2) nm wh m0 m1 m2 m3) (1 + n + 2) ∧ W6.heap[w.heap.size]? = some (.cells #[.int .i64 m0, .int .i64 m1, .int .i64 m2, .int .i64 m3] 23 (0, 0)) ∧ W6.heap[w6.heap.size]? = some (.cells #[.string wh, .int .i64 0, .int .i64 0, .int .i64 0, .int .i64 0, .int .i64 0, .string ⟨#[]⟩, .int .i64 0, .slice ao6 0 c6, .bool false, .bool false, .string ⟨#[]⟩, .string ⟨#[]⟩, .int .i64 0] 34 (0, 0))) := by
              have hb : Below w6.heap.size w6 W6 := by rw [hW6]; exact (Below.refl _ w6).alloc (Nat.le_refl _) _
              have hlt := (Array.getElem?_eq_some_iff.1 hm6).1
              have hbox := ho6.box C (.cells #[.string wh, .int .i64 0, .int .i64 0, .int .i64 0, .int .i64 0, .int .i64 0, .string ⟨#[]⟩, .int .i64 0, .slice ao6 0 c6, .bool false, .bool false, .string ⟨#[]⟩, .string ⟨#[]⟩, .int .i64 0] 34)
              rw [← hW6] at hbox
              exact ⟨hbox, hv6, (hb.block _ hlt).trans hm6, by rw [hW6]; exact new_at rfl⟩
            have HC6 : Hid (Calls Tryz.prog 11 #[.pointer (some ⟨va, 0, none⟩), .agg #[.int .i64 2, .int .i64 0, .string nm, .string ⟨#[]⟩, .int .i64 0, .int .i64 0, .int .i64 0, .int .i64 0, .slice none 0 0, .slice none 0 0]] W6 fun e w' => ∃ ao c, e = .returned (.agg #[.string ⟨#[]⟩, .int .i64 0, .int .i64 m0, .int .i64 m1, .int .i64 m2, .int .i64 m3, .string nm, .int .i64 (wh.size : Int), .slice ao 0 c, .bool false, .bool false, .string ⟨#[]⟩, .string ⟨#[]⟩, .int .i64 0]) ∧ OneS PS va (oneVl wh.size (1 + n + 3) nm wh m0 m1 m2 m3) w [w6.heap.size, ra, w.heap.size] w' ∧ Vlf (oneVl wh.size (1 + n + 3) nm wh m0 m1 m2 m3) (1 + n + 3) ∧ w'.heap[w.heap.size]? = some (.cells #[.int .i64 m0, .int .i64 m1, .int .i64 m2, .int .i64 m3] 23 (0, 0)) ∧ w'.heap[w6.heap.size]? = some (.cells #[.string wh, .int .i64 0, .int .i64 0, .int .i64 0, .int .i64 0, .int .i64 0, .string ⟨#[]⟩, .int .i64 0, .slice ao6 0 c6, .bool false, .bool false, .string ⟨#[]⟩, .string ⟨#[]⟩, .int .i64 0] 34 (0, 0))) := by
              obtain ⟨h1, h2, h3, h4⟩ := HF6.out
              refine (h1.step C h2 (by omega) (opk 2 nm) (opk_ok _ _ (by have := HPS.out.2.2.2; omega)) (one_stat _ _ _ _ HOK.out m0 m1 m2 m3)).mono ?_
              rintro e w' ⟨ao, c, rfl, g1, g2, g3, -⟩
              exact ⟨ao, c, rfl, g1, g2, (g3 _ (by simp)).trans h3, (g3 _ (by simp)).trans h4⟩
            clear ho6 hv6 hm6 hW6 HC5
            go_upto_region 28 with fail
            rw [← HW6.out]
            go_wp2_with fail
            go_at_call 11
            refine Calls.mono HC6.out ?_
            rintro r w7 ⟨ao7, c7, rfl, ho7, hv7, hm7, hr7⟩
            obtain ⟨W7, hW7⟩ : ∃ W7, W7 = w7.alloc (.cells #[.string ⟨#[]⟩, .int .i64 0, .int .i64 m0, .int .i64 m1, .int .i64 m2, .int .i64 m3, .string nm, .int .i64 (wh.size : Int), .slice ao7 0 c7, .bool false, .bool false, .string ⟨#[]⟩, .string ⟨#[]⟩, .int .i64 0] 34) := ⟨_, rfl⟩
            have HW7 : Hid (W7 = w7.alloc (.cells #[.string ⟨#[]⟩, .int .i64 0, .int .i64 m0, .int .i64 m1, .int .i64 m2, .int .i64 m3, .string nm, .int .i64 (wh.size : Int), .slice ao7 0 c7, .bool false, .bool false, .string ⟨#[]⟩, .string ⟨#[]⟩, .int .i64 0] 34)) := hW7
            have HF7 : Hid (OneS PS va (oneVl wh.size (1 + n + 3) nm wh m0 m1 m2 m3) w [w7.heap.size, w6.heap.size, ra, w.heap.size] W7 ∧ Vlf (oneVl wh.size (1 + n + 3) nm wh m0 m1 m2 m3) (1 + n + 3) ∧ W7.heap[w.heap.size]? = some (.cells #[.int .i64 m0, .int .i64 m1, .int .i64 m2, .int .i64 m3] 23 (0, 0)) ∧ W7.heap[w6.heap.size]? = some (.cells #[.string wh, .int .i64 0, .int .i64 0, .int .i64 0, .int .i64 0, .int .i64 0, .string ⟨#[]⟩, .int .i64 0, .slice ao6 0 c6, .bool false, .bool false, .string ⟨#[]⟩, .string ⟨#[]⟩, .int .i64 0] 34 (0, 0)) ∧ W7.heap[w7.heap.size]? = some (.cells #[.string ⟨#[]⟩, .int .i64 0, .int .i64 m0, .int .i64 m1, .int .i64 m2, .int .i64 m3, .string nm, .int .i64 (wh.size : Int), .slice ao7 0 c7, .bool false, .bool false, .string ⟨#[]⟩, .string ⟨#[]⟩, .int .i64 0] 34 (0, 0))) := by
              have hb : Below w7.heap.size w7 W7 := by rw [hW7]; exact (Below.refl _ w7).alloc (Nat.le_refl _) _
              have hlt := (Array.getElem?_eq_some_iff.1 hm7).1
              have hlt2 := (Array.getElem?_eq_some_iff.1 hr7).1
              have hbox := ho7.box C (.cells #[.string ⟨#[]⟩, .int .i64 0, .int .i64 m0, .int .i64 m1, .int .i64 m2, .int .i64 m3, .string nm, .int .i64 (wh.size : Int), .slice ao7 0 c7, .bool false, .bool false, .string ⟨#[]⟩, .string ⟨#[]⟩, .int .i64 0] 34)
              rw [← hW7] at hbox
              exact ⟨hbox, hv7, (hb.block _ hlt).trans hm7, (hb.block _ hlt2).trans hr7, by rw [hW7]; exact new_at rfl⟩
            have HC7 : Hid (Calls Tryz.prog 11 #[.pointer (some ⟨va, 0, none⟩), .agg #[.int .i64 3, .int .i64 0, .string ⟨#[]⟩, .string ⟨#[]⟩, .int .i64 0, .int .i64 0, .int .i64 0, .int .i64 0, .slice none 0 0, .slice none 0 0]] W7 fun e w' => ∃ b off c, e = .returned (.agg #[.string ⟨#[]⟩, .int .i64 0, .int .i64 0, .int .i64 0, .int .i64 0, .int .i64 0, .string ⟨#[]⟩, .int .i64 0, .slice (some ⟨b, off, none⟩) 1 c, .bool false, .bool false, .string ⟨#[]⟩, .string ⟨#[]⟩, .int .i64 0]) ∧ Below w.heap.size w w' ∧ w'.heap[w.heap.size]? = some (.cells #[.int .i64 m0, .int .i64 m1, .int .i64 m2, .int .i64 m3] 23 (0, 0)) ∧ w'.heap[w6.heap.size]? = some (.cells #[.string wh, .int .i64 0, .int .i64 0, .int .i64 0, .int .i64 0, .int .i64 0, .string ⟨#[]⟩, .int .i64 0, .slice ao6 0 c6, .bool false, .bool false, .string ⟨#[]⟩, .string ⟨#[]⟩, .int .i64 0] 34 (0, 0)) ∧ w'.heap[w7.heap.size]? = some (.cells #[.string ⟨#[]⟩, .int .i64 0, .int .i64 m0, .int .i64 m1, .int .i64 m2, .int .i64 m3, .string nm, .int .i64 (wh.size : Int), .slice ao7 0 c7, .bool false, .bool false, .string ⟨#[]⟩, .string ⟨#[]⟩, .int .i64 0] 34 (0, 0)) ∧ w'.cell? ⟨b, off, none⟩ = some (.string nm)) := by
              obtain ⟨h1, h2, h3, h4, h5⟩ := HF7.out
              refine (h1.step C h2 (by omega) (opk 3 ⟨#[]⟩) (opk_ok _ _ (by decide)) (one_list _ _ _ _ m0 m1 m2 m3)).mono ?_
              rintro e w' ⟨ao, c, rfl, g1, g2, g3, g4⟩
              rcases g4 with ⟨h, _⟩ | ⟨b, off, cap, hv, hc⟩
              · cases h
              · cases hv
                exact ⟨b, off, c, rfl, g1.blw, (g3 _ (by simp)).trans h3, (g3 _ (by simp)).trans h4, (g3 _ (by simp)).trans h5, hc 0 (by simp)⟩
            clear ho7 hv7 hm7 hr7 hW7 HC6
            go_upto_region 29 with fail
            rw [← HW7.out]
            go_wp2_with fail
            go_at_call 11
            refine Calls.mono HC7.out ?_
            rintro r w8 ⟨bl, ol, cl, rfl, hb8, hm8, hr8, hs8, hl8⟩
            obtain ⟨W8, hW8⟩ : ∃ W8, W8 = w8.alloc (.cells #[.string ⟨#[]⟩, .int .i64 0, .int .i64 0, .int .i64 0, .int .i64 0, .int .i64 0, .string ⟨#[]⟩, .int .i64 0, .slice (some ⟨bl, ol, none⟩) 1 cl, .bool false, .bool false, .string ⟨#[]⟩, .string ⟨#[]⟩, .int .i64 0] 34) := ⟨_, rfl⟩
            have HW8 : Hid (W8 = w8.alloc (.cells #[.string ⟨#[]⟩, .int .i64 0, .int .i64 0, .int .i64 0, .int .i64 0, .int .i64 0, .string ⟨#[]⟩, .int .i64 0, .slice (some ⟨bl, ol, none⟩) 1 cl, .bool false, .bool false, .string ⟨#[]⟩, .string ⟨#[]⟩, .int .i64 0] 34)) := hW8
            have hb : Below w8.heap.size w8 W8 := by rw [hW8]; exact (Below.refl _ w8).alloc (Nat.le_refl _) _
            have HB8 : Hid (Below w.heap.size w W8) := hb8.trans (hb.mono hb8.size)
            have hl9 : W8.cell? ⟨bl, ol, none⟩ = some (.string nm) := cell_below hb hl8
            have hl9' : W8.cell? ⟨bl, ol + 0, none⟩ = some (.string nm) := hl9
            obtain ⟨z0, z1, z2, z3⟩ := at4 ((hb.block _ (Array.getElem?_eq_some_iff.1 hm8).1).trans hm8)
            obtain ⟨⟨p0, p1, p2, p3, p4, p5, p6, p7, p8, p9, p10, p11, p12, p13⟩, -⟩ := at14 ((hb.block _ (Array.getElem?_eq_some_iff.1 hr8).1).trans hr8)
            obtain ⟨⟨q0, q1, q2, q3, q4, q5, q6, q7, q8, q9, q10, q11, q12, q13⟩, -⟩ := at14 ((hb.block _ (Array.getElem?_eq_some_iff.1 hs8).1).trans hs8)
            obtain ⟨⟨l0, l1, l2, l3, l4, l5, l6, l7, l8, l9, l10, l11, l12, l13⟩, -⟩ := at14 (show W8.heap[w8.heap.size]? = some (.cells #[.string ⟨#[]⟩, .int .i64 0, .int .i64 0, .int .i64 0, .int .i64 0, .int .i64 0, .string ⟨#[]⟩, .int .i64 0, .slice (some ⟨bl, ol, none⟩) 1 cl, .bool false, .bool false, .string ⟨#[]⟩, .string ⟨#[]⟩, .int .i64 0] 34 (0, 0)) by rw [hW8]; exact new_at rfl)
            have e1 : (wh.toList == wh.toList) = true := by simp
            have e2 : (wh.toList != wh.toList) = false := by simp
            have e3 : (m0 == m0) = true := by simp
            have e4 : (m1 == m1) = true := by simp
            have e5 : (m2 == m2) = true := by simp
            have e6 : (m3 == m3) = true := by simp
            have e7 : (nm.toList == nm.toList) = true := by simp
            have e8 : ((wh.size : Int) == (wh.size : Int)) = true := by simp
            clear hb hb8 hm8 hr8 hs8 hl8 hW8 HC7
            go_upto_region 30 with fail
            rw [← HW8.out]
            go_wp2
            go_returns
            exact ⟨rfl, HB8.out⟩
end Go.Proofs.YtjbphheojfclcaaGreat
