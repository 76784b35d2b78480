
-- A step of the Vol by the volume itself: kind handle: Close, Name, none.
import Derived.Test.YtjbphheojfclcaaGreatZH
import Derived.Deep.QuietTactic
import Derived.BigQuiet
import Derived.Deep.RegionWith
import Derived.Deep.DrawnRows
import Derived.Deep.CutRange
namespace Go.Proofs.YtjbphheojfclcaaGreat
open Go.RowKit
set_option linter.unusedVariables false
set_option maxRecDepth 100000
variable {PS : (Nat → Prop) → Nat → St → World → Prop}
attribute [local go_sem ↓] Go.wp_at_zero Go.wp_at_succ
theorem mid_of10 (C : PC PS) {S : Nat → Prop} {vb : Nat} {x : Vl} {w W W' : World} (h : VA PS (ext S W W') vb x W') (hk : Kp S W W') (hlow : ∀ k, S k → k < w.heap.size) (hb : Below w.heap.size w W) (hr : W.heap[w.heap.size + 1]? = some (.cells ans0V 34 (0, 0))) (h2 : w.heap.size + 2 ≤ W.heap.size) : Mid PS S vb x w W' (.slice none 0 0) [] := by
  have hs' := hk.size
  have no : ¬ S (w.heap.size + 1) := fun h => by have := hlow _ h; omega
  refine ⟨⟨_, h, fun k h => ?_, fun h => ?_⟩, (Kp.of_below hb).trans hk, (hk.block _ (by omega) no).trans hr, World.ownsRow_nil _ _ _ _, by omega, hlow⟩
  · rcases h with h | h
    · exact .inl h
    · exact .inr ⟨by omega, h.2⟩
  · rcases h with h | h
    · exact no h
    · omega
set_option maxHeartbeats 4000000 in
theorem hName_c (q : Nat) (b : Nat) (x : Hd) (w : World) (hb : FileAt w b q x) :
    Calls Tryz.prog 60 #[.pointer (some ⟨b, 0, none⟩)] w fun e w' => e = .returned (.string x.name) ∧ w' = w := by
  obtain ⟨d0, d1, d2, d3, df⟩ := hb.cells
  clear d0 d2 d3 df
  go_enter Tryz.func60, Tryz.ntmps60
  go_wp2
  go_returns
  exact ⟨rfl, rfl⟩
set_option maxRecDepth 20000 in
set_option maxHeartbeats 8000000 in
theorem byH_10 (C : PC PS) (S : Nat → Prop) (vb q : Nat) (x : Vl) (mv : Value) (G : Nat → Prop) (hs : List (Nat × Hd)) (k : Nat) (i : Nat) (a b : ByteArray) (m0 m1 m2 m3 : Int) (po : Option Addr) (pl pc : Nat) (co : Option Addr) (cl cc : Nat) (w : World) (T : VLo PS S vb x w q mv G hs) (hk : Vlf x k) (hkk : k < 2097151) (h : Nat) (y : Hd) (hi : hs[i]? = some (h, y)) :
    Calls Tryz.prog 38 #[.pointer (some ⟨vb, 0, none⟩), .agg #[.int .i64 10, .int .i64 (i : Int), .string a, .string b, .int .i64 m0, .int .i64 m1, .int .i64 m2, .int .i64 m3, .slice po pl pc, .slice co cl cc]] w fun e w' => Stepped PS S vb (x.byH ⟨10, (i : Int), a, b, m0, m1, m2, m3⟩ y).1 (x.byH ⟨10, (i : Int), a, b, m0, m1, m2, m3⟩ y).2 w w' e := by
  have hp : pick hs (i : Int) = some (h, y) := by unfold pick; rw [if_neg (by omega)]; exact hi
  obtain ⟨X, hX⟩ : ∃ X, X = Obj.cells #[.int .i64 10, .int .i64 (i : Int), .string a, .string b, .int .i64 m0, .int .i64 m1, .int .i64 m2, .int .i64 m3, .slice po pl pc, .slice co cl cc] 39 := ⟨_, rfl⟩
  obtain ⟨W0, hW0⟩ : ∃ W0, W0 = (w.alloc X).alloc (.cells ans0V 34) := ⟨_, rfl⟩
  obtain ⟨z1, z2, z3, z4⟩ := mid_two (w := w) X
  rw [← hW0] at z1 z2 z3 z4
  have T0 := T.below C z1
  have hcn : x.v.cnt ≤ 4194304 := by have := hk.vf.cnt; omega
  have hll : hs.length ≤ 2097152 := by rw [show hs.length = x.hs.length by rw [← T.eq, List.length_map]]; have := hk.few; omega
  rw [hX] at z4
  have HS : Hid (∀ W, Below W0.heap.size W0 W → W.cell? ⟨w.heap.size, 0, none⟩ = some (.int .i64 10) ∧ W.cell? ⟨w.heap.size, 2, none⟩ = some (.string a) ∧ Mid PS S vb x w W (.slice none 0 0) [] ∧ W.heap[w.heap.size + 1]? = some (.cells ans0V 34 (0, 0))) := fun W hb => by
    have h := (hb.block w.heap.size (by omega)).trans z4
    have hm : Mid PS S vb x w W0 (.slice none 0 0) [] := by rw [hW0]; exact mid_start C ⟨q, mv, G, hs, T⟩ X
    have hm2 := hm.below C hb
    refine ⟨?_, ?_, hm2, hm2.res⟩ <;> (rw [Lib.cell_of_heap h]; rfl)
  have HH : Hid (Calls Tryz.prog 42 #[.pointer (some ⟨vb, 0, none⟩), .agg #[.int .i64 10, .int .i64 (i : Int), .string a, .string b, .int .i64 m0, .int .i64 m1, .int .i64 m2, .int .i64 m3, .slice po pl pc, .slice co cl cc]] W0 fun e w' => e = .returned (.pointer (some ⟨h, 0, none⟩)) ∧ Below W0.heap.size W0 w') := by
    have := handle_c (PS := PS) S vb q x mv G hs 10 (i : Int) a b m0 m1 m2 m3 po pl pc co cl cc W0 T0 hll
    rw [hp] at this
    exact this
  obtain ⟨E, hE⟩ : ∃ z, z = (x.v.close y).1 := ⟨_, rfl⟩
  obtain ⟨A, hA⟩ : ∃ A, A = (x.byH ⟨10, (i : Int), a, b, m0, m1, m2, m3⟩ y).1 := ⟨_, rfl⟩
  have hA' : A = An.fail an0 opClose y.name E := by rw [hA, hE]; rfl
  obtain ⟨XV, hXV⟩ : ∃ z : Vl, z = ⟨x.v, x.hs.set i (x.v.close y).2⟩ := ⟨_, rfl⟩
  have hx' : (x.byH ⟨10, (i : Int), a, b, m0, m1, m2, m3⟩ y).2 = XV := by rw [hXV]; rfl
  have HP : Hid (∀ W, Below W0.heap.size W0 W → Calls Tryz.prog 59 #[.pointer (some ⟨h, 0, none⟩)] W fun e w' => ∃ ev, e = .returned ev ∧ Mid PS S vb XV w w' (.slice none 0 0) [] ∧ ErrIs w' 0 opClose y.name E ev) := fun W hb => by
    have t := T0.below C hb
    obtain ⟨hf, -, hg⟩ := t.mf i h y hi
    refine (hClose_c G q x.v h y W t.pp hf).mono ?_
    rintro e w' ⟨ev, rfl, he, hf', hk'⟩
    refine ⟨ev, rfl, ?_, by rw [hE]; exact he.low (Nat.zero_le _)⟩
    obtain ⟨t2, hk2⟩ := t.setH C hi hf' hk'
    rw [hXV]
    exact mid_of10 C ⟨_, _, _, _, t2⟩ hk2 T.low ((z1.trans (hb.mono (by omega)))) ((hb.block _ (by omega)).trans z3) (by have := hb.size; omega)
  have HW : Hid (∀ ev W, Mid PS S vb XV w W (.slice none 0 0) [] → ErrIs W 0 opClose y.name E ev → ∀ W', Alike W W' → Calls Tryz.prog 31 #[.agg #[.string ⟨#[]⟩, .int .i64 0, .int .i64 0, .int .i64 0, .int .i64 0, .int .i64 0, .string ⟨#[]⟩, .int .i64 0, .slice none 0 0, .bool false, .bool false, .string ⟨#[]⟩, .string ⟨#[]⟩, .int .i64 0], ev] W' fun r w2 => r = .returned (.agg #[.string A.s, .int .i64 A.n, .int .i64 A.i0, .int .i64 A.i1, .int .i64 A.i2, .int .i64 A.i3, .string A.iname, .int .i64 A.isz, .slice none 0 0, .bool A.bad, .bool false, .string A.op, .string A.nm, .int .i64 A.e]) ∧ Mid PS S vb XV w w2 (.slice none 0 0) [] ∧ w2.heap[w.heap.size + 1]? = some (.cells ans0V 34 (0, 0))) := fun ev W hm he W' hAl => by
    refine (with_c (an0) none 0 0 opClose y.name E ev W' ⟨rfl, rfl, rfl, rfl⟩ (he.below hAl.below)).mono ?_
    rintro r w2 ⟨rfl, hb⟩
    rw [hA']
    have hm2 := (hm.below C hAl.below).below C hb
    exact ⟨rfl, hm2, hm2.res⟩
  have HAL : Hid (A.l = []) := by
    rw [hA']; unfold An.fail; split <;> rfl
  have HD14 : Hid (∀ W, Mid PS S vb XV w W (.slice none 0 0) [] → ∀ v0 v1 v2 v3 v4 v5 v6 v7 v8 v9 v10 v11 v12 v13 : Value, (VAD PS S vb XV w (put14 W (w.heap.size + 1) v0 v1 v2 v3 v4 v5 v6 v7 v8 v9 v10 v11 v12 v13) ∧ (put14 W (w.heap.size + 1) v0 v1 v2 v3 v4 v5 v6 v7 v8 v9 v10 v11 v12 v13).ownsRow w.heap.size 9 1 (.slice none 0 0) 0 []) ∧ (put14 W (w.heap.size + 1) v0 v1 v2 v3 v4 v5 v6 v7 v8 v9 v10 v11 v12 v13).heap[w.heap.size + 1]? = some (.cells #[v0, v1, v2, v3, v4, v5, v6, v7, v8, v9, v10, v11, v12, v13] 34 (0, 0))) := fun W hm v0 v1 v2 v3 v4 v5 v6 v7 v8 v9 v10 v11 v12 v13 => hm.done14 C v0 v1 v2 v3 v4 v5 v6 v7 v8 v9 v10 v11 v12 v13
  rw [← hA, hx']
  rw [hW0] at HH HS HP
  clear hx' hA hA' hE hXV hcn hll T T0 z1 z2 z3 z4 hW0 hk hkk hp hi
  subst hX
  go_enter Tryz.func38, Tryz.ntmps38
  go_wp2_with (first
    | (go_at_call 42; refine HH.out.mono ?_; rintro e w1 ⟨rfl, hb1⟩; obtain ⟨s0, s2, hm1, hr1⟩ := HS.out _ hb1)
    | (go_at_call 59; refine (HP.out _ hb1).mono ?_; rintro e w2 ⟨ev, rfl, hm2, he2⟩)
    | (go_at_call 31; refine (HW.out _ _ hm2 he2 _ (Alike.mk ?_ ?_ ?_ ?_)).mono ?_; rfl; rfl; rfl; rfl; rintro r w3 ⟨rfl, hm3, hr3⟩; obtain ⟨⟨y0, y1, y2, y3, y4, y5, y6, y7, y8, y9, y10, y11, y12, y13⟩, g0, g1, g2, g3, g4, g5, g6, g7, g8, g9, g10, g11, g12, g13⟩ := at14 hr3))
  obtain ⟨⟨u1, u2⟩, u3⟩ := HD14.out w3 hm3 (.string A.s) (.int .i64 A.n) (.int .i64 A.i0) (.int .i64 A.i1) (.int .i64 A.i2) (.int .i64 A.i3) (.string A.iname) (.int .i64 A.isz) (.slice none 0 0) (.bool A.bad) (.bool false) (.string A.op) (.string A.nm) (.int .i64 A.e)
  refine bodyPost_ret (results_one rfl _ _ (w.heap.size + 1) _ _ _ _ rfl u3 Tryz.underlying34 rfl sizeAns) rfl ?_
  exact ⟨none, 0, by rw [HAL.out]; rfl, u1, by rw [HAL.out]; exact u2⟩
set_option maxRecDepth 20000 in
set_option maxHeartbeats 8000000 in
theorem byH_11 (C : PC PS) (S : Nat → Prop) (vb q : Nat) (x : Vl) (mv : Value) (G : Nat → Prop) (hs : List (Nat × Hd)) (k : Nat) (i : Nat) (a b : ByteArray) (m0 m1 m2 m3 : Int) (po : Option Addr) (pl pc : Nat) (co : Option Addr) (cl cc : Nat) (w : World) (T : VLo PS S vb x w q mv G hs) (hk : Vlf x k) (hkk : k < 2097151) (h : Nat) (y : Hd) (hi : hs[i]? = some (h, y)) :
    Calls Tryz.prog 38 #[.pointer (some ⟨vb, 0, none⟩), .agg #[.int .i64 11, .int .i64 (i : Int), .string a, .string b, .int .i64 m0, .int .i64 m1, .int .i64 m2, .int .i64 m3, .slice po pl pc, .slice co cl cc]] w fun e w' => Stepped PS S vb (x.byH ⟨11, (i : Int), a, b, m0, m1, m2, m3⟩ y).1 (x.byH ⟨11, (i : Int), a, b, m0, m1, m2, m3⟩ y).2 w w' e := by
  have hp : pick hs (i : Int) = some (h, y) := by unfold pick; rw [if_neg (by omega)]; exact hi
  obtain ⟨X, hX⟩ : ∃ X, X = Obj.cells #[.int .i64 11, .int .i64 (i : Int), .string a, .string b, .int .i64 m0, .int .i64 m1, .int .i64 m2, .int .i64 m3, .slice po pl pc, .slice co cl cc] 39 := ⟨_, rfl⟩
  obtain ⟨W0, hW0⟩ : ∃ W0, W0 = (w.alloc X).alloc (.cells ans0V 34) := ⟨_, rfl⟩
  obtain ⟨z1, z2, z3, z4⟩ := mid_two (w := w) X
  rw [← hW0] at z1 z2 z3 z4
  have T0 := T.below C z1
  have hcn : x.v.cnt ≤ 4194304 := by have := hk.vf.cnt; omega
  have hll : hs.length ≤ 2097152 := by rw [show hs.length = x.hs.length by rw [← T.eq, List.length_map]]; have := hk.few; omega
  rw [hX] at z4
  have HS : Hid (∀ W, Below W0.heap.size W0 W → W.cell? ⟨w.heap.size, 0, none⟩ = some (.int .i64 11) ∧ W.cell? ⟨w.heap.size, 2, none⟩ = some (.string a) ∧ Mid PS S vb x w W (.slice none 0 0) [] ∧ W.heap[w.heap.size + 1]? = some (.cells ans0V 34 (0, 0))) := fun W hb => by
    have h := (hb.block w.heap.size (by omega)).trans z4
    have hm : Mid PS S vb x w W0 (.slice none 0 0) [] := by rw [hW0]; exact mid_start C ⟨q, mv, G, hs, T⟩ X
    have hm2 := hm.below C hb
    refine ⟨?_, ?_, hm2, hm2.res⟩ <;> (rw [Lib.cell_of_heap h]; rfl)
  have HH : Hid (Calls Tryz.prog 42 #[.pointer (some ⟨vb, 0, none⟩), .agg #[.int .i64 11, .int .i64 (i : Int), .string a, .string b, .int .i64 m0, .int .i64 m1, .int .i64 m2, .int .i64 m3, .slice po pl pc, .slice co cl cc]] W0 fun e w' => e = .returned (.pointer (some ⟨h, 0, none⟩)) ∧ Below W0.heap.size W0 w') := by
    have := handle_c (PS := PS) S vb q x mv G hs 11 (i : Int) a b m0 m1 m2 m3 po pl pc co cl cc W0 T0 hll
    rw [hp] at this
    exact this
  have HP : Hid (∀ W, Below W0.heap.size W0 W → Calls Tryz.prog 60 #[.pointer (some ⟨h, 0, none⟩)] W fun e w' => e = .returned (.string y.name) ∧ w' = W) := fun W hb => hName_c q h y W ((T0.below C hb).mf i h y hi).1
  have HD14 : Hid (∀ W, Mid PS S vb x w W (.slice none 0 0) [] → ∀ v0 v1 v2 v3 v4 v5 v6 v7 v8 v9 v10 v11 v12 v13 : Value, (VAD PS S vb x w (put14 W (w.heap.size + 1) v0 v1 v2 v3 v4 v5 v6 v7 v8 v9 v10 v11 v12 v13) ∧ (put14 W (w.heap.size + 1) v0 v1 v2 v3 v4 v5 v6 v7 v8 v9 v10 v11 v12 v13).ownsRow w.heap.size 9 1 (.slice none 0 0) 0 []) ∧ (put14 W (w.heap.size + 1) v0 v1 v2 v3 v4 v5 v6 v7 v8 v9 v10 v11 v12 v13).heap[w.heap.size + 1]? = some (.cells #[v0, v1, v2, v3, v4, v5, v6, v7, v8, v9, v10, v11, v12, v13] 34 (0, 0))) := fun W hm v0 v1 v2 v3 v4 v5 v6 v7 v8 v9 v10 v11 v12 v13 => hm.done14 C v0 v1 v2 v3 v4 v5 v6 v7 v8 v9 v10 v11 v12 v13
  have hx' : x.byH ⟨11, (i : Int), a, b, m0, m1, m2, m3⟩ y = ({ an0 with s := y.name }, x) := rfl
  rw [hx']
  rw [hW0] at HH HS HP
  clear hx' hcn hll T T0 z1 z2 z3 z4 hW0 hk hkk hp hi
  subst hX
  go_enter Tryz.func38, Tryz.ntmps38
  go_wp2_with (first
    | (go_at_call 42; refine HH.out.mono ?_; rintro e w1 ⟨rfl, hb1⟩; obtain ⟨s0, s2, hm1, hr1⟩ := HS.out _ hb1; obtain ⟨⟨y0, y1, y2, y3, y4, y5, y6, y7, y8, y9, y10, y11, y12, y13⟩, g0, g1, g2, g3, g4, g5, g6, g7, g8, g9, g10, g11, g12, g13⟩ := at14 hr1)
    | (go_at_call 60; refine (HP.out _ hb1).mono ?_; rintro e w2 ⟨rfl, hw2⟩; subst w2))
  obtain ⟨⟨u1, u2⟩, u3⟩ := HD14.out w1 hm1 (.string y.name) (.int .i64 0) (.int .i64 0) (.int .i64 0) (.int .i64 0) (.int .i64 0) (.string ⟨#[]⟩) (.int .i64 0) (.slice none 0 0) (.bool false) (.bool false) (.string ⟨#[]⟩) (.string ⟨#[]⟩) (.int .i64 0)
  refine bodyPost_ret (results_one rfl _ _ (w.heap.size + 1) _ _ _ _ rfl u3 Tryz.underlying34 rfl sizeAns) rfl ?_
  exact ⟨none, 0, rfl, u1, u2⟩
set_option maxRecDepth 20000 in
set_option maxHeartbeats 8000000 in
theorem byH_no (C : PC PS) (S : Nat → Prop) (vb q : Nat) (x : Vl) (mv : Value) (G : Nat → Prop) (hs : List (Nat × Hd)) (k : Nat) (K n : Int) (a b : ByteArray) (m0 m1 m2 m3 : Int) (po : Option Addr) (pl pc : Nat) (co : Option Addr) (cl cc : Nat) (w : World) (T : VLo PS S vb x w q mv G hs) (hk : Vlf x k) (hkk : k < 2097151) (hp0 : pick hs n = none) :
    Calls Tryz.prog 38 #[.pointer (some ⟨vb, 0, none⟩), .agg #[.int .i64 K, .int .i64 n, .string a, .string b, .int .i64 m0, .int .i64 m1, .int .i64 m2, .int .i64 m3, .slice po pl pc, .slice co cl cc]] w fun e w' => Stepped PS S vb an0 x w w' e := by
  have hp := hp0
  obtain ⟨X, hX⟩ : ∃ X, X = Obj.cells #[.int .i64 K, .int .i64 n, .string a, .string b, .int .i64 m0, .int .i64 m1, .int .i64 m2, .int .i64 m3, .slice po pl pc, .slice co cl cc] 39 := ⟨_, rfl⟩
  obtain ⟨W0, hW0⟩ : ∃ W0, W0 = (w.alloc X).alloc (.cells ans0V 34) := ⟨_, rfl⟩
  obtain ⟨z1, z2, z3, z4⟩ := mid_two (w := w) X
  rw [← hW0] at z1 z2 z3 z4
  have T0 := T.below C z1
  have hcn : x.v.cnt ≤ 4194304 := by have := hk.vf.cnt; omega
  have hll : hs.length ≤ 2097152 := by rw [show hs.length = x.hs.length by rw [← T.eq, List.length_map]]; have := hk.few; omega
  rw [hX] at z4
  have HS : Hid (∀ W, Below W0.heap.size W0 W → W.cell? ⟨w.heap.size, 0, none⟩ = some (.int .i64 K) ∧ W.cell? ⟨w.heap.size, 2, none⟩ = some (.string a) ∧ Mid PS S vb x w W (.slice none 0 0) [] ∧ W.heap[w.heap.size + 1]? = some (.cells ans0V 34 (0, 0))) := fun W hb => by
    have h := (hb.block w.heap.size (by omega)).trans z4
    have hm : Mid PS S vb x w W0 (.slice none 0 0) [] := by rw [hW0]; exact mid_start C ⟨q, mv, G, hs, T⟩ X
    have hm2 := hm.below C hb
    refine ⟨?_, ?_, hm2, hm2.res⟩ <;> (rw [Lib.cell_of_heap h]; rfl)
  have HH : Hid (Calls Tryz.prog 42 #[.pointer (some ⟨vb, 0, none⟩), .agg #[.int .i64 K, .int .i64 n, .string a, .string b, .int .i64 m0, .int .i64 m1, .int .i64 m2, .int .i64 m3, .slice po pl pc, .slice co cl cc]] W0 fun e w' => e = .returned (.pointer none) ∧ Below W0.heap.size W0 w') := by
    have := handle_c (PS := PS) S vb q x mv G hs K n a b m0 m1 m2 m3 po pl pc co cl cc W0 T0 hll
    rw [hp] at this
    exact this
  have HD14 : Hid (∀ W, Mid PS S vb x w W (.slice none 0 0) [] → ∀ v0 v1 v2 v3 v4 v5 v6 v7 v8 v9 v10 v11 v12 v13 : Value, (VAD PS S vb x w (put14 W (w.heap.size + 1) v0 v1 v2 v3 v4 v5 v6 v7 v8 v9 v10 v11 v12 v13) ∧ (put14 W (w.heap.size + 1) v0 v1 v2 v3 v4 v5 v6 v7 v8 v9 v10 v11 v12 v13).ownsRow w.heap.size 9 1 (.slice none 0 0) 0 []) ∧ (put14 W (w.heap.size + 1) v0 v1 v2 v3 v4 v5 v6 v7 v8 v9 v10 v11 v12 v13).heap[w.heap.size + 1]? = some (.cells #[v0, v1, v2, v3, v4, v5, v6, v7, v8, v9, v10, v11, v12, v13] 34 (0, 0))) := fun W hm v0 v1 v2 v3 v4 v5 v6 v7 v8 v9 v10 v11 v12 v13 => hm.done14 C v0 v1 v2 v3 v4 v5 v6 v7 v8 v9 v10 v11 v12 v13
  rw [hW0] at HH HS
  clear hcn hll T T0 z1 z2 z3 z4 hW0 hk hkk hp hp0
  subst hX
  go_enter Tryz.func38, Tryz.ntmps38
  go_wp2_with (go_at_call 42; refine HH.out.mono ?_; rintro e w1 ⟨rfl, hb1⟩; obtain ⟨s0, s2, hm1, hr1⟩ := HS.out _ hb1; obtain ⟨⟨y0, y1, y2, y3, y4, y5, y6, y7, y8, y9, y10, y11, y12, y13⟩, g0, g1, g2, g3, g4, g5, g6, g7, g8, g9, g10, g11, g12, g13⟩ := at14 hr1)
  obtain ⟨⟨u1, u2⟩, u3⟩ := HD14.out w1 hm1 (.string ⟨#[]⟩) (.int .i64 0) (.int .i64 0) (.int .i64 0) (.int .i64 0) (.int .i64 0) (.string ⟨#[]⟩) (.int .i64 0) (.slice none 0 0) (.bool false) (.bool false) (.string ⟨#[]⟩) (.string ⟨#[]⟩) (.int .i64 0)
  refine bodyPost_ret (results_one rfl _ _ (w.heap.size + 1) _ _ _ _ rfl u3 Tryz.underlying34 rfl sizeAns) rfl ?_
  exact ⟨none, 0, rfl, u1, u2⟩
end Go.Proofs.YtjbphheojfclcaaGreat
