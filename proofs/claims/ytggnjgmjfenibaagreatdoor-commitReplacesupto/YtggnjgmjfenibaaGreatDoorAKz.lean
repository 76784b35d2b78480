import Derived.Test.YtggnjgmjfenibaaGreatDoorM9
import Derived.Test.YtggnjgmjfenibaaGreatDoorM8
import Derived.Deep.RegionWith
import Derived.Deep.CutRange

-- What the volumes tell.
namespace Go.Proofs.YtggnjgmjfenibaaGreatDoor
open Go.RowKit
set_option linter.unusedVariables false
set_option maxRecDepth 100000
variable {PS : (Nat → Prop) → Nat → St → World → Prop}
set_option maxHeartbeats 8000000 in
theorem asks3 (C : PC PS) (B q r k : Nat) (n : Int) (a b : ByteArray) (m0 m1 m2 m3 : Int) (po : Option Addr) (pl pc : Nat) (co : Option Addr) (cl cc : Nat) (w : World) (h : Bk PS B q r k w) (hk : k < 2097151) :
    Calls Tryz.prog 10 #[.pointer (some ⟨q, 0, none⟩), .pointer (some ⟨r, 0, none⟩), .agg #[.int .i64 3, .int .i64 n, .string a, .string b, .int .i64 m0, .int .i64 m1, .int .i64 m2, .int .i64 m3, .slice po pl pc, .slice co cl cc]] w fun e w' => e = .returned (.bool true) ∧ Bk PS B q r (k + 1) w' ∧ Below B w w' := by
  obtain ⟨v, L, hb0, hv⟩ := h
  have hB := hb0.low
  obtain ⟨W0, hW0⟩ : ∃ W0, W0 = w.alloc (Obj.cells #[.int .i64 3, .int .i64 n, .string a, .string b, .int .i64 m0, .int .i64 m1, .int .i64 m2, .int .i64 m3, .slice po pl pc, .slice co cl cc] 34) := ⟨_, rfl⟩
  have hbA : Below w.heap.size w W0 := by rw [hW0]; exact (Below.refl _ w).alloc (Nat.le_refl _) _
  obtain ⟨S0, hS0⟩ : ∃ S0 : Nat → Prop, S0 = fun k => False ∨ (w.heap.size ≤ k ∧ k < W0.heap.size) := ⟨_, rfl⟩
  have hs0 : Bs PS B q r v v S0 L W0 := by rw [hS0]; exact hb0.grow C hbA
  have hx0 : W0.heap[w.heap.size]? = some (.cells #[.int .i64 3, .int .i64 n, .string a, .string b, .int .i64 m0, .int .i64 m1, .int .i64 m2, .int .i64 m3, .slice po pl pc, .slice co cl cc] 34 (0, 0)) := by rw [hW0]; exact heap_alloc_new _ _
  have hin : S0 w.heap.size := by rw [hS0]; exact .inr ⟨Nat.le_refl _, by rw [hW0]; simp⟩
  have HC : Hid (∀ W, Beside B S0 W0 W → W.cell? ⟨w.heap.size, 0, none⟩ = some (.int .i64 3) ∧ W.cell? ⟨w.heap.size, 2, none⟩ = some (.string a)) := fun W hW => by
    have hh := (hW.set _ hin).trans hx0
    refine ⟨?_, ?_⟩ <;> (rw [Lib.cell_of_heap hh]; rfl)
  have HW0 := hidK hW0
  have HB0 : Hid (Below B w W0) := hbA.mono hB
  have hcn : v.cnt ≤ 4194304 := by have := hv.cnt; omega
  obtain ⟨D, hD⟩ : ∃ x, x = (v.read a).1.1 := ⟨_, rfl⟩
  obtain ⟨E, hE⟩ : ∃ x, x = (v.read a).1.2 := ⟨_, rfl⟩
  obtain ⟨V, hV⟩ : ∃ x, x = (v.read a).2 := ⟨_, rfl⟩
  have hvV : Vf V (k + 1) := by rw [hV]; exact hv.read a
  have HP : Hid (Calls Tryz.prog 25 #[.pointer (some ⟨q, 0, none⟩), .string a] W0 fun e w' => ∃ ev, e = .returned (.tuple #[.string D, ev]) ∧ ErrIs w' W0.heap.size ⟨#[114, 101, 97, 100]⟩ a E ev ∧ Bs PS B q r V v S0 W0.heap.size w' ∧ Beside B S0 W0 w') := by
    have := bs_read C B q r v v S0 L a W0 hs0 hv.wf hcn
    rw [← hD, ← hE, ← hV] at this
    refine this.mono ?_
    rintro e w' ⟨ev, h1, h2, h3, h4⟩
    exact ⟨ev, h1, h2, h3, h4⟩
  have HR : Hid (∀ w1, Bs PS B q r V v S0 W0.heap.size w1 → Calls Tryz.prog 26 #[.pointer (some ⟨r, 0, none⟩), .string a] w1 fun e w' => e = .returned (.tuple #[.string D, .int .i64 (E : Int)]) ∧ Bs PS B q r V V S0 w'.heap.size w' ∧ Beside B S0 w1 w' ∧ ∀ op nm e ev, ErrIs w1 W0.heap.size op nm e ev → ErrIs w' W0.heap.size op nm e ev) := fun w1 h1 => by
    have := bs_rread C B q r V v S0 W0.heap.size a w1 h1 hv.wf hcn
    rw [← hD, ← hE, ← hV] at this; exact this
  have HT : Hid (∀ ev W, ErrIs W W0.heap.size ⟨#[114, 101, 97, 100]⟩ a E ev → Calls Tryz.prog 21 #[ev, .string ⟨#[114, 101, 97, 100]⟩, .string a, .int .i64 (E : Int)] W fun r w' => r = .returned (.bool true) ∧ Alike W w') := fun ev W he => told16_c _ _ _ _ _ _ he
  have HF : Hid (∀ w2 w3 : World, Bs PS B q r V V S0 w2.heap.size w2 → Alike w2 w3 → Bk PS B q r (k + 1) w3) := fun w2 w3 h2 hA => (h2.below C hA.below).bk hvV
  have b1 : (D.toList == D.toList) = true := by simp
  clear hs0 hx0 hin hbA hb0 hv hvV hcn hD hE hV hW0 hS0
  go_enter Tryz.func10, Tryz.ntmps10
  go_upto_region 3 with fail
  rw [← HW0.out]
  obtain ⟨s0, s2⟩ := HC.out W0 (Beside.refl _ _ _)
  go_upto_region 4 with (go_at_call 25; refine HP.out.mono ?_; rintro e w1 ⟨ev, rfl, he1, hb1, hk1⟩)
  clear s0 s2
  obtain ⟨s0, s2⟩ := HC.out w1 hk1
  go_upto_region 5 with (go_at_call 26; refine (HR.out w1 hb1).mono ?_; rintro e w2 ⟨rfl, hb2, hk2, he2⟩)
  clear s0 s2
  obtain ⟨s0, s2⟩ := HC.out w2 (hk1.trans hk2)
  have he3 := he2 _ _ _ _ he1
  clear he2 he1
  go_wp2_with (go_at_call 21; refine (HT.out _ _ he3).mono ?_; rintro e w3 ⟨rfl, hA3⟩)
  go_returns
  exact ⟨rfl, HF.out w2 w3 hb2 hA3, (HB0.out.trans (hk1.trans hk2).below).trans (hA3.below.mono hb2.low)⟩
theorem RowS.alike {W W' : World} {x : Value} {K : List ByteArray} (h : RowS W x K) (hA : Alike W W') : RowS W' x K := by
  rcases h with h | ⟨b, off, cap, h1, h2⟩
  · exact .inl h
  · exact .inr ⟨b, off, cap, h1, fun j hj => (World.cell?_of_block (a := ⟨b, off + j, none⟩) (by rw [hA.heap])).trans (h2 j hj)⟩
theorem list_len16 {v : Vs} (hw : Wf v.st) : v.list.1.1.length ≤ 64 := by
  unfold Vs.list
  split
  · simp
  · show v.st.names.length ≤ 64
    unfold St.names; rw [List.length_map]; exact now_len hw
set_option maxHeartbeats 8000000 in
theorem asks5 (C : PC PS) (B q r k : Nat) (n : Int) (a b : ByteArray) (m0 m1 m2 m3 : Int) (po : Option Addr) (pl pc : Nat) (co : Option Addr) (cl cc : Nat) (w : World) (h : Bk PS B q r k w) (hk : k < 2097151) :
    Calls Tryz.prog 10 #[.pointer (some ⟨q, 0, none⟩), .pointer (some ⟨r, 0, none⟩), .agg #[.int .i64 5, .int .i64 n, .string a, .string b, .int .i64 m0, .int .i64 m1, .int .i64 m2, .int .i64 m3, .slice po pl pc, .slice co cl cc]] w fun e w' => e = .returned (.bool true) ∧ Bk PS B q r (k + 1) w' ∧ Below B w w' := by
  obtain ⟨v, L, hb0, hv⟩ := h
  have hB := hb0.low
  obtain ⟨W0, hW0⟩ : ∃ W0, W0 = w.alloc (Obj.cells #[.int .i64 5, .int .i64 n, .string a, .string b, .int .i64 m0, .int .i64 m1, .int .i64 m2, .int .i64 m3, .slice po pl pc, .slice co cl cc] 34) := ⟨_, rfl⟩
  have hbA : Below w.heap.size w W0 := by rw [hW0]; exact (Below.refl _ w).alloc (Nat.le_refl _) _
  obtain ⟨S0, hS0⟩ : ∃ S0 : Nat → Prop, S0 = fun k => False ∨ (w.heap.size ≤ k ∧ k < W0.heap.size) := ⟨_, rfl⟩
  have hs0 : Bs PS B q r v v S0 L W0 := by rw [hS0]; exact hb0.grow C hbA
  have hx0 : W0.heap[w.heap.size]? = some (.cells #[.int .i64 5, .int .i64 n, .string a, .string b, .int .i64 m0, .int .i64 m1, .int .i64 m2, .int .i64 m3, .slice po pl pc, .slice co cl cc] 34 (0, 0)) := by rw [hW0]; exact heap_alloc_new _ _
  have hin : S0 w.heap.size := by rw [hS0]; exact .inr ⟨Nat.le_refl _, by rw [hW0]; simp⟩
  have HC : Hid (∀ W, Beside B S0 W0 W → W.cell? ⟨w.heap.size, 0, none⟩ = some (.int .i64 5) ∧ W.cell? ⟨w.heap.size, 2, none⟩ = some (.string a)) := fun W hW => by
    have hh := (hW.set _ hin).trans hx0
    refine ⟨?_, ?_⟩ <;> (rw [Lib.cell_of_heap hh]; rfl)
  have HW0 := hidK hW0
  have HB0 : Hid (Below B w W0) := hbA.mono hB
  have hcn : v.cnt ≤ 4194304 := by have := hv.cnt; omega
  obtain ⟨K, hK⟩ : ∃ x, x = v.list.1.1 := ⟨_, rfl⟩
  obtain ⟨E, hE⟩ : ∃ x, x = v.list.1.2 := ⟨_, rfl⟩
  obtain ⟨V, hV⟩ : ∃ x, x = v.list.2 := ⟨_, rfl⟩
  have hvV : Vf V (k + 1) := by rw [hV]; exact hv.list
  have hKl : K.length ≤ 64 := by rw [hK]; exact list_len16 hv.wf
  have HS : Hid (∀ va vb W, RowS W va K → RowS W vb K → Calls Tryz.prog 31 #[va, vb] W fun e w' => e = .returned (.bool true) ∧ Alike W w') := fun va vb W h1 h2 => (same16_c va vb K K W h1 h2 (by omega) (by omega)).mono (by
    rintro e w' ⟨rfl, n, rfl⟩
    exact ⟨by simp, Alike.drewN _ n⟩)
  have HP : Hid (Calls Tryz.prog 29 #[.pointer (some ⟨q, 0, none⟩)] W0 fun e w' => ∃ ao c ev, e = .returned (.tuple #[.slice ao K.length c, ev]) ∧ ErrIs w' W0.heap.size ⟨#[108, 105, 115, 116]⟩ ⟨#[]⟩ E ev ∧ w'.ownsRow W0.heap.size 9 1 (.slice ao K.length c) K.length (strV K) ∧ Bs PS B q r V v S0 W0.heap.size w' ∧ Beside B S0 W0 w') := by
    have := bs_list C B q r v v S0 L W0 hs0 hv.wf hcn
    rw [← hK, ← hE, ← hV] at this
    refine this.mono ?_
    rintro e w' ⟨x, ev, h1, h2, h2', h3, h4⟩
    obtain ⟨ao, c, rfl⟩ := own_shape h2
    exact ⟨ao, c, ev, h1, h2', h2, h3, h4⟩
  have HR : Hid (∀ w1, Bs PS B q r V v S0 W0.heap.size w1 → Calls Tryz.prog 30 #[.pointer (some ⟨r, 0, none⟩)] w1 fun e w' => ∃ ao c, e = .returned (.tuple #[.slice ao K.length c, .int .i64 (E : Int)]) ∧ RowS w' (.slice ao K.length c) K ∧ (∀ x, w1.ownsRow W0.heap.size 9 1 x K.length (strV K) → RowS w' x K) ∧ Bs PS B q r V V S0 w'.heap.size w' ∧ Beside B S0 w1 w' ∧ ∀ op nm e ev, ErrIs w1 W0.heap.size op nm e ev → ErrIs w' W0.heap.size op nm e ev) := fun w1 h1 => by
    have := bs_rlist C B q r V v S0 W0.heap.size w1 h1 hv.wf hcn
    rw [← hK, ← hE, ← hV] at this
    refine this.mono ?_
    rintro e w' ⟨⟨x, h1, h2⟩, h3, h4⟩
    obtain ⟨ao, c, rfl⟩ := own_shape h2
    exact ⟨ao, c, h1, RowS.of_own h2, fun y hy => RowS.of_own (h3 _ _ _ hy), h4⟩
  have HT : Hid (∀ ev W, ErrIs W W0.heap.size ⟨#[108, 105, 115, 116]⟩ ⟨#[]⟩ E ev → Calls Tryz.prog 21 #[ev, .string ⟨#[108, 105, 115, 116]⟩, .string ⟨#[]⟩, .int .i64 (E : Int)] W fun r w' => r = .returned (.bool true) ∧ Alike W w') := fun ev W he => told16_c _ _ _ _ _ _ he
  have HF : Hid (∀ w2 w3 w4 : World, Bs PS B q r V V S0 w2.heap.size w2 → Alike w2 w3 → Alike w3 w4 → Bk PS B q r (k + 1) w4) := fun w2 w3 w4 h2 hA hA2 => ((h2.below C hA.below).below C hA2.below).bk hvV
  have HRB : Hid (∀ x (W W' : World), RowS W x K → Alike W W' → RowS W' x K) := fun x W W' h hA => h.alike hA
  obtain ⟨LL, hLL⟩ : ∃ n, n = K.length := ⟨_, rfl⟩
  rw [← hLL] at HP HR
  clear hs0 hx0 hin hbA hb0 hv hvV hcn hE hV hW0 hS0 hKl hK hLL
  go_enter Tryz.func10, Tryz.ntmps10
  go_upto_region 13 with fail
  rw [← HW0.out]
  go_upto_region 14 with (go_at_call 29; refine HP.out.mono ?_; rintro e w1 ⟨ao, c, ev, rfl, he1, ho1, hb1, hk1⟩)
  go_upto_region 15 with (go_at_call 30; refine (HR.out w1 hb1).mono ?_; rintro e w2 ⟨ao2, c2, rfl, ho2, ho3, hb2, hk2, he2⟩)
  have he3 := he2 _ _ _ _ he1
  have ho3' := ho3 _ ho1
  clear he2 he1 ho3 ho1
  go_upto_region 16 with (go_at_call 21; refine (HT.out _ _ he3).mono ?_; rintro e w3 ⟨rfl, hA3⟩)
  have ho4 := HRB.out _ _ _ ho2 hA3
  have ho5 := HRB.out _ _ _ ho3' hA3
  clear ho2 ho3'
  go_wp2_with (go_at_call 31; refine (HS.out _ _ _ ho5 ho4).mono ?_; rintro e w4 ⟨rfl, hA4⟩)
  go_returns
  exact ⟨rfl, HF.out w2 w3 w4 hb2 hA3 hA4, ((HB0.out.trans (hk1.trans hk2).below).trans (hA3.below.mono hb2.low)).trans (hA4.below.mono (by have := hb2.low; have := hA3.below.size; omega))⟩
theorem asks6 (C : PC PS) (B q r k : Nat) (n : Int) (a b : ByteArray) (m0 m1 m2 m3 : Int) (po : Option Addr) (pl pc : Nat) (co : Option Addr) (cl cc : Nat) (w : World) (h : Bk PS B q r k w) (hk : k < 2097151) :
    Calls Tryz.prog 10 #[.pointer (some ⟨q, 0, none⟩), .pointer (some ⟨r, 0, none⟩), .agg #[.int .i64 6, .int .i64 n, .string a, .string b, .int .i64 m0, .int .i64 m1, .int .i64 m2, .int .i64 m3, .slice po pl pc, .slice co cl cc]] w fun e w' => e = .returned (.bool true) ∧ Bk PS B q r (k + 1) w' ∧ Below B w w' := by
  obtain ⟨v, L, hb0, hv⟩ := h
  have hB := hb0.low
  obtain ⟨W0, hW0⟩ : ∃ W0, W0 = w.alloc (Obj.cells #[.int .i64 6, .int .i64 n, .string a, .string b, .int .i64 m0, .int .i64 m1, .int .i64 m2, .int .i64 m3, .slice po pl pc, .slice co cl cc] 34) := ⟨_, rfl⟩
  have hbA : Below w.heap.size w W0 := by rw [hW0]; exact (Below.refl _ w).alloc (Nat.le_refl _) _
  obtain ⟨S0, hS0⟩ : ∃ S0 : Nat → Prop, S0 = fun k => False ∨ (w.heap.size ≤ k ∧ k < W0.heap.size) := ⟨_, rfl⟩
  have hs0 : Bs PS B q r v v S0 L W0 := by rw [hS0]; exact hb0.grow C hbA
  have hx0 : W0.heap[w.heap.size]? = some (.cells #[.int .i64 6, .int .i64 n, .string a, .string b, .int .i64 m0, .int .i64 m1, .int .i64 m2, .int .i64 m3, .slice po pl pc, .slice co cl cc] 34 (0, 0)) := by rw [hW0]; exact heap_alloc_new _ _
  have hin : S0 w.heap.size := by rw [hS0]; exact .inr ⟨Nat.le_refl _, by rw [hW0]; simp⟩
  have HC : Hid (∀ W, Beside B S0 W0 W → W.cell? ⟨w.heap.size, 0, none⟩ = some (.int .i64 6) ∧ W.cell? ⟨w.heap.size, 2, none⟩ = some (.string a)) := fun W hW => by
    have hh := (hW.set _ hin).trans hx0
    refine ⟨?_, ?_⟩ <;> (rw [Lib.cell_of_heap hh]; rfl)
  have HW0 := hidK hW0
  have HB0 : Hid (Below B w W0) := hbA.mono hB
  have hcn : v.cnt ≤ 4194304 := by have := hv.cnt; omega
  have HP : Hid (Calls Tryz.prog 32 #[.pointer (some ⟨q, 0, none⟩)] W0 fun e w' => e = .returned (.int .i64 v.cnt) ∧ w' = W0) := bs_calls C B q r v v S0 L W0 hs0
  have HR : Hid (Calls Tryz.prog 33 #[.pointer (some ⟨r, 0, none⟩)] W0 fun e w' => e = .returned (.int .i64 v.cnt) ∧ w' = W0) := bs_rcalls C B q r v v S0 L W0 hs0
  have HD : Hid (Calls Tryz.prog 34 #[.pointer (some ⟨q, 0, none⟩)] W0 fun e w' => e = .returned (.bool v.off) ∧ w' = W0) := bs_down C B q r v v S0 L W0 hs0
  have HE : Hid (Calls Tryz.prog 35 #[.pointer (some ⟨r, 0, none⟩)] W0 fun e w' => e = .returned (.bool v.off) ∧ w' = W0) := bs_rdown C B q r v v S0 L W0 hs0
  have HF : Hid (Bk PS B q r (k + 1) W0) := (hs0.bk hv).mono (by omega)
  have b1 : ((v.cnt : Int) == v.cnt) = true := by simp
  have b2 : (v.off == v.off) = true := by simp
  clear hs0 hx0 hin hbA hb0 hv hcn hW0 hS0
  go_enter Tryz.func10, Tryz.ntmps10
  go_upto_region 18 with fail
  rw [← HW0.out]
  go_wp2_with (first
    | (go_at_call 32; refine HP.out.mono ?_; rintro e w1 ⟨rfl, hw1⟩; rw [hw1]; clear hw1)
    | (go_at_call 33; refine HR.out.mono ?_; rintro e w1 ⟨rfl, hw1⟩; rw [hw1]; clear hw1)
    | (go_at_call 34; refine HD.out.mono ?_; rintro e w1 ⟨rfl, hw1⟩; rw [hw1]; clear hw1)
    | (go_at_call 35; refine HE.out.mono ?_; rintro e w1 ⟨rfl, hw1⟩; rw [hw1]; clear hw1))
  go_returns
  exact ⟨rfl, HF.out, HB0.out⟩
end Go.Proofs.YtggnjgmjfenibaaGreatDoor
