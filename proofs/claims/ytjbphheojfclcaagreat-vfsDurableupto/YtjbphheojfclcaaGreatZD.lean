
-- A step of the Vol by the volume itself: kind all of them.
import Derived.Test.YtjbphheojfclcaaGreatZB8
import Derived.Test.YtjbphheojfclcaaGreatZB10
import Derived.Test.YtjbphheojfclcaaGreatZK1
import Derived.Test.YtjbphheojfclcaaGreatZK2
import Derived.Test.YtjbphheojfclcaaGreatZK3
import Derived.Test.YtjbphheojfclcaaGreatZK4
import Derived.Test.YtjbphheojfclcaaGreatZK5
import Derived.Test.YtjbphheojfclcaaGreatZK6
import Derived.Test.YtjbphheojfclcaaGreatZK7
import Derived.Deep.QuietTactic
import Derived.BigQuiet
import Derived.Deep.RegionWith
import Derived.Deep.DrawnRows
import Derived.Deep.CutRange
namespace Go.Proofs.YtjbphheojfclcaaGreat
open Go.RowKit
set_option linter.unusedVariables false
set_option maxRecDepth 100000
variable {PS : (Nat → Prop) → Nat → St → World → Prop}
attribute [local go_sem ↓] Go.wp_at_zero Go.wp_at_succ
theorem pick_hd {x : Vl} {hs : List (Nat × Hd)} (h : hs.map (·.2) = x.hs) (n : Int) : x.hd n = (pick hs n).map (·.2) := by
  unfold Vl.hd pick
  rw [← h]
  split
  · rfl
  · rw [List.getElem?_map]
theorem byHandle_c (C : PC PS) (S : Nat → Prop) (vb : Nat) (x : Vl) (k : Nat) (n : Int) (a b : ByteArray) (m0 m1 m2 m3 : Int) (po : Option Addr) (pl pc : Nat) (co : Option Addr) (cl cc : Nat) (w : World) (h : VA PS S vb x w) (hk : Vlf x k) (hkk : k < 2097151) (hsm : a.size ≤ 140737488355328) (K : Int) (hK : K = 8 ∨ K = 9 ∨ K = 10 ∨ K = 11) :
    Calls Tryz.prog 38 #[.pointer (some ⟨vb, 0, none⟩), .agg #[.int .i64 K, .int .i64 n, .string a, .string b, .int .i64 m0, .int .i64 m1, .int .i64 m2, .int .i64 m3, .slice po pl pc, .slice co cl cc]] w fun e w' => Stepped PS S vb (x.byHandle ⟨K, n, a, b, m0, m1, m2, m3⟩).1 (x.byHandle ⟨K, n, a, b, m0, m1, m2, m3⟩).2 w w' e := by
  obtain ⟨q, mv, G, hs, T⟩ := h
  have hhd := pick_hd T.eq n
  unfold Vl.byHandle
  simp only
  rw [hhd]
  cases hp : pick hs n with
  | none => exact byH_no C S vb q x mv G hs k K n a b m0 m1 m2 m3 po pl pc co cl cc w T hk hkk hp
  | some z =>
    obtain ⟨h', y⟩ := z
    have hn : 0 ≤ n := by
      unfold pick at hp
      split at hp
      · cases hp
      · omega
    obtain ⟨i, rfl⟩ := Int.eq_ofNat_of_zero_le hn
    have hi : hs[i]? = some (h', y) := by
      unfold pick at hp
      rw [if_neg (by omega)] at hp
      exact hp
    simp only [Option.map]
    rcases hK with rfl | rfl | rfl | rfl
    · exact byH_8 C S vb q x mv G hs k i a b m0 m1 m2 m3 po pl pc co cl cc w T hk hkk h' y hi hsm
    · exact byH_9 C S vb q x mv G hs k i a b m0 m1 m2 m3 po pl pc co cl cc w T hk hkk h' y hi hsm
    · exact byH_10 C S vb q x mv G hs k i a b m0 m1 m2 m3 po pl pc co cl cc w T hk hkk h' y hi
    · exact byH_11 C S vb q x mv G hs k i a b m0 m1 m2 m3 po pl pc co cl cc w T hk hkk h' y hi
set_option maxRecDepth 20000 in
set_option maxHeartbeats 8000000 in
theorem call_8 (C : PC PS) (S : Nat → Prop) (vb : Nat) (x : Vl) (k : Nat) (n : Int) (a b : ByteArray) (m0 m1 m2 m3 : Int) (po : Option Addr) (pl pc : Nat) (co : Option Addr) (cl cc : Nat) (w : World) (h : VA PS S vb x w) (hk : Vlf x k) (hkk : k < 2097151) (hsm : a.size ≤ 140737488355328) :
    Calls Tryz.prog 11 #[.pointer (some ⟨vb, 0, none⟩), .agg #[.int .i64 8, .int .i64 n, .string a, .string b, .int .i64 m0, .int .i64 m1, .int .i64 m2, .int .i64 m3, .slice po pl pc, .slice co cl cc]] w fun e w' => Stepped PS S vb (x.call ⟨8, n, a, b, m0, m1, m2, m3⟩).1 (x.call ⟨8, n, a, b, m0, m1, m2, m3⟩).2 w w' e := by
  have hc : x.call ⟨8, n, a, b, m0, m1, m2, m3⟩ = x.byHandle ⟨8, n, a, b, m0, m1, m2, m3⟩ := rfl
  rw [hc]
  obtain ⟨X, hX⟩ : ∃ X, X = Obj.cells #[.int .i64 8, .int .i64 n, .string a, .string b, .int .i64 m0, .int .i64 m1, .int .i64 m2, .int .i64 m3, .slice po pl pc, .slice co cl cc] 39 := ⟨_, rfl⟩
  obtain ⟨z1, z2, z3, z4⟩ := mid_two (w := w) X
  have hlow := h.low
  obtain ⟨A, hA⟩ : ∃ A, A = (x.byHandle ⟨8, n, a, b, m0, m1, m2, m3⟩).1 := ⟨_, rfl⟩
  obtain ⟨XV, hXV⟩ : ∃ z, z = (x.byHandle ⟨8, n, a, b, m0, m1, m2, m3⟩).2 := ⟨_, rfl⟩
  have HP : Hid (Calls Tryz.prog 38 #[.pointer (some ⟨vb, 0, none⟩), .agg #[.int .i64 8, .int .i64 n, .string a, .string b, .int .i64 m0, .int .i64 m1, .int .i64 m2, .int .i64 m3, .slice po pl pc, .slice co cl cc]] ((w.alloc X).alloc (.cells ans0V 34)) fun e w' => ∃ ao LN c, e = .returned (.agg #[.string A.s, .int .i64 A.n, .int .i64 A.i0, .int .i64 A.i1, .int .i64 A.i2, .int .i64 A.i3, .string A.iname, .int .i64 A.isz, .slice ao LN c, .bool A.bad, .bool false, .string A.op, .string A.nm, .int .i64 A.e]) ∧ Hid (LN = A.l.length) ∧ Mid PS S vb XV w w' (.slice ao LN c) A.l ∧ w'.heap[w.heap.size + 1]? = some (.cells ans0V 34 (0, 0))) := by
    refine (byHandle_c C S vb x k n a b m0 m1 m2 m3 po pl pc co cl cc _ (h.below C z1) hk hkk hsm 8 (by omega)).mono ?_
    rintro e w' ⟨ao, c, rfl, hd, hr⟩
    rw [← hA] at hr
    rw [← hXV] at hd
    have hm := (mid_of C hd.1 hd.2 hlow z1 z3 (by omega)).withRow (own_mono hr (by omega))
    exact ⟨ao, A.l.length, c, by rw [← hA]; rfl, rfl, hm, hm.res⟩
  have HD14 : Hid (∀ ao LN c W, Mid PS S vb XV w W (.slice ao LN c) A.l → ∀ v0 v1 v2 v3 v4 v5 v6 v7 v8 v9 v10 v11 v12 v13 : Value, (VAD PS S vb XV w (put14 W (w.heap.size + 1) v0 v1 v2 v3 v4 v5 v6 v7 v8 v9 v10 v11 v12 v13) ∧ (put14 W (w.heap.size + 1) v0 v1 v2 v3 v4 v5 v6 v7 v8 v9 v10 v11 v12 v13).ownsRow w.heap.size 9 1 (.slice ao LN c) A.l.length (strV A.l)) ∧ (put14 W (w.heap.size + 1) v0 v1 v2 v3 v4 v5 v6 v7 v8 v9 v10 v11 v12 v13).heap[w.heap.size + 1]? = some (.cells #[v0, v1, v2, v3, v4, v5, v6, v7, v8, v9, v10, v11, v12, v13] 34 (0, 0))) := fun ao LN c W hm v0 v1 v2 v3 v4 v5 v6 v7 v8 v9 v10 v11 v12 v13 => hm.done14 C v0 v1 v2 v3 v4 v5 v6 v7 v8 v9 v10 v11 v12 v13
  rw [← hA, ← hXV]
  clear hA hXV z1 z2 z3 z4 h hk hkk hsm hlow hc
  subst hX
  go_enter Tryz.func11, Tryz.ntmps11
  go_wp2_with (go_at_call 38; refine HP.out.mono ?_; rintro e w1 ⟨ao, LN, c, rfl, hln, hm1, hr1⟩; obtain ⟨⟨y0, y1, y2, y3, y4, y5, y6, y7, y8, y9, y10, y11, y12, y13⟩, g0, g1, g2, g3, g4, g5, g6, g7, g8, g9, g10, g11, g12, g13⟩ := at14 hr1)
  obtain ⟨⟨u1, u2⟩, u3⟩ := HD14.out ao LN c w1 hm1 (.string A.s) (.int .i64 A.n) (.int .i64 A.i0) (.int .i64 A.i1) (.int .i64 A.i2) (.int .i64 A.i3) (.string A.iname) (.int .i64 A.isz) (.slice ao LN c) (.bool A.bad) (.bool false) (.string A.op) (.string A.nm) (.int .i64 A.e)
  refine bodyPost_ret (results_one rfl _ _ (w.heap.size + 1) _ _ _ _ rfl u3 Tryz.underlying34 rfl sizeAns) rfl ?_
  exact ⟨ao, c, by rw [← hln.out]; rfl, u1, by rw [← hln.out]; rw [← hln.out] at u2; exact u2⟩
set_option maxRecDepth 20000 in
set_option maxHeartbeats 8000000 in
theorem call_9 (C : PC PS) (S : Nat → Prop) (vb : Nat) (x : Vl) (k : Nat) (n : Int) (a b : ByteArray) (m0 m1 m2 m3 : Int) (po : Option Addr) (pl pc : Nat) (co : Option Addr) (cl cc : Nat) (w : World) (h : VA PS S vb x w) (hk : Vlf x k) (hkk : k < 2097151) (hsm : a.size ≤ 140737488355328) :
    Calls Tryz.prog 11 #[.pointer (some ⟨vb, 0, none⟩), .agg #[.int .i64 9, .int .i64 n, .string a, .string b, .int .i64 m0, .int .i64 m1, .int .i64 m2, .int .i64 m3, .slice po pl pc, .slice co cl cc]] w fun e w' => Stepped PS S vb (x.call ⟨9, n, a, b, m0, m1, m2, m3⟩).1 (x.call ⟨9, n, a, b, m0, m1, m2, m3⟩).2 w w' e := by
  have hc : x.call ⟨9, n, a, b, m0, m1, m2, m3⟩ = x.byHandle ⟨9, n, a, b, m0, m1, m2, m3⟩ := rfl
  rw [hc]
  obtain ⟨X, hX⟩ : ∃ X, X = Obj.cells #[.int .i64 9, .int .i64 n, .string a, .string b, .int .i64 m0, .int .i64 m1, .int .i64 m2, .int .i64 m3, .slice po pl pc, .slice co cl cc] 39 := ⟨_, rfl⟩
  obtain ⟨z1, z2, z3, z4⟩ := mid_two (w := w) X
  have hlow := h.low
  obtain ⟨A, hA⟩ : ∃ A, A = (x.byHandle ⟨9, n, a, b, m0, m1, m2, m3⟩).1 := ⟨_, rfl⟩
  obtain ⟨XV, hXV⟩ : ∃ z, z = (x.byHandle ⟨9, n, a, b, m0, m1, m2, m3⟩).2 := ⟨_, rfl⟩
  have HP : Hid (Calls Tryz.prog 38 #[.pointer (some ⟨vb, 0, none⟩), .agg #[.int .i64 9, .int .i64 n, .string a, .string b, .int .i64 m0, .int .i64 m1, .int .i64 m2, .int .i64 m3, .slice po pl pc, .slice co cl cc]] ((w.alloc X).alloc (.cells ans0V 34)) fun e w' => ∃ ao LN c, e = .returned (.agg #[.string A.s, .int .i64 A.n, .int .i64 A.i0, .int .i64 A.i1, .int .i64 A.i2, .int .i64 A.i3, .string A.iname, .int .i64 A.isz, .slice ao LN c, .bool A.bad, .bool false, .string A.op, .string A.nm, .int .i64 A.e]) ∧ Hid (LN = A.l.length) ∧ Mid PS S vb XV w w' (.slice ao LN c) A.l ∧ w'.heap[w.heap.size + 1]? = some (.cells ans0V 34 (0, 0))) := by
    refine (byHandle_c C S vb x k n a b m0 m1 m2 m3 po pl pc co cl cc _ (h.below C z1) hk hkk hsm 9 (by omega)).mono ?_
    rintro e w' ⟨ao, c, rfl, hd, hr⟩
    rw [← hA] at hr
    rw [← hXV] at hd
    have hm := (mid_of C hd.1 hd.2 hlow z1 z3 (by omega)).withRow (own_mono hr (by omega))
    exact ⟨ao, A.l.length, c, by rw [← hA]; rfl, rfl, hm, hm.res⟩
  have HD14 : Hid (∀ ao LN c W, Mid PS S vb XV w W (.slice ao LN c) A.l → ∀ v0 v1 v2 v3 v4 v5 v6 v7 v8 v9 v10 v11 v12 v13 : Value, (VAD PS S vb XV w (put14 W (w.heap.size + 1) v0 v1 v2 v3 v4 v5 v6 v7 v8 v9 v10 v11 v12 v13) ∧ (put14 W (w.heap.size + 1) v0 v1 v2 v3 v4 v5 v6 v7 v8 v9 v10 v11 v12 v13).ownsRow w.heap.size 9 1 (.slice ao LN c) A.l.length (strV A.l)) ∧ (put14 W (w.heap.size + 1) v0 v1 v2 v3 v4 v5 v6 v7 v8 v9 v10 v11 v12 v13).heap[w.heap.size + 1]? = some (.cells #[v0, v1, v2, v3, v4, v5, v6, v7, v8, v9, v10, v11, v12, v13] 34 (0, 0))) := fun ao LN c W hm v0 v1 v2 v3 v4 v5 v6 v7 v8 v9 v10 v11 v12 v13 => hm.done14 C v0 v1 v2 v3 v4 v5 v6 v7 v8 v9 v10 v11 v12 v13
  rw [← hA, ← hXV]
  clear hA hXV z1 z2 z3 z4 h hk hkk hsm hlow hc
  subst hX
  go_enter Tryz.func11, Tryz.ntmps11
  go_wp2_with (go_at_call 38; refine HP.out.mono ?_; rintro e w1 ⟨ao, LN, c, rfl, hln, hm1, hr1⟩; obtain ⟨⟨y0, y1, y2, y3, y4, y5, y6, y7, y8, y9, y10, y11, y12, y13⟩, g0, g1, g2, g3, g4, g5, g6, g7, g8, g9, g10, g11, g12, g13⟩ := at14 hr1)
  obtain ⟨⟨u1, u2⟩, u3⟩ := HD14.out ao LN c w1 hm1 (.string A.s) (.int .i64 A.n) (.int .i64 A.i0) (.int .i64 A.i1) (.int .i64 A.i2) (.int .i64 A.i3) (.string A.iname) (.int .i64 A.isz) (.slice ao LN c) (.bool A.bad) (.bool false) (.string A.op) (.string A.nm) (.int .i64 A.e)
  refine bodyPost_ret (results_one rfl _ _ (w.heap.size + 1) _ _ _ _ rfl u3 Tryz.underlying34 rfl sizeAns) rfl ?_
  exact ⟨ao, c, by rw [← hln.out]; rfl, u1, by rw [← hln.out]; rw [← hln.out] at u2; exact u2⟩
set_option maxRecDepth 20000 in
set_option maxHeartbeats 8000000 in
theorem call_10 (C : PC PS) (S : Nat → Prop) (vb : Nat) (x : Vl) (k : Nat) (n : Int) (a b : ByteArray) (m0 m1 m2 m3 : Int) (po : Option Addr) (pl pc : Nat) (co : Option Addr) (cl cc : Nat) (w : World) (h : VA PS S vb x w) (hk : Vlf x k) (hkk : k < 2097151) (hsm : a.size ≤ 140737488355328) :
    Calls Tryz.prog 11 #[.pointer (some ⟨vb, 0, none⟩), .agg #[.int .i64 10, .int .i64 n, .string a, .string b, .int .i64 m0, .int .i64 m1, .int .i64 m2, .int .i64 m3, .slice po pl pc, .slice co cl cc]] w fun e w' => Stepped PS S vb (x.call ⟨10, n, a, b, m0, m1, m2, m3⟩).1 (x.call ⟨10, n, a, b, m0, m1, m2, m3⟩).2 w w' e := by
  have hc : x.call ⟨10, n, a, b, m0, m1, m2, m3⟩ = x.byHandle ⟨10, n, a, b, m0, m1, m2, m3⟩ := rfl
  rw [hc]
  obtain ⟨X, hX⟩ : ∃ X, X = Obj.cells #[.int .i64 10, .int .i64 n, .string a, .string b, .int .i64 m0, .int .i64 m1, .int .i64 m2, .int .i64 m3, .slice po pl pc, .slice co cl cc] 39 := ⟨_, rfl⟩
  obtain ⟨z1, z2, z3, z4⟩ := mid_two (w := w) X
  have hlow := h.low
  obtain ⟨A, hA⟩ : ∃ A, A = (x.byHandle ⟨10, n, a, b, m0, m1, m2, m3⟩).1 := ⟨_, rfl⟩
  obtain ⟨XV, hXV⟩ : ∃ z, z = (x.byHandle ⟨10, n, a, b, m0, m1, m2, m3⟩).2 := ⟨_, rfl⟩
  have HP : Hid (Calls Tryz.prog 38 #[.pointer (some ⟨vb, 0, none⟩), .agg #[.int .i64 10, .int .i64 n, .string a, .string b, .int .i64 m0, .int .i64 m1, .int .i64 m2, .int .i64 m3, .slice po pl pc, .slice co cl cc]] ((w.alloc X).alloc (.cells ans0V 34)) fun e w' => ∃ ao LN c, e = .returned (.agg #[.string A.s, .int .i64 A.n, .int .i64 A.i0, .int .i64 A.i1, .int .i64 A.i2, .int .i64 A.i3, .string A.iname, .int .i64 A.isz, .slice ao LN c, .bool A.bad, .bool false, .string A.op, .string A.nm, .int .i64 A.e]) ∧ Hid (LN = A.l.length) ∧ Mid PS S vb XV w w' (.slice ao LN c) A.l ∧ w'.heap[w.heap.size + 1]? = some (.cells ans0V 34 (0, 0))) := by
    refine (byHandle_c C S vb x k n a b m0 m1 m2 m3 po pl pc co cl cc _ (h.below C z1) hk hkk hsm 10 (by omega)).mono ?_
    rintro e w' ⟨ao, c, rfl, hd, hr⟩
    rw [← hA] at hr
    rw [← hXV] at hd
    have hm := (mid_of C hd.1 hd.2 hlow z1 z3 (by omega)).withRow (own_mono hr (by omega))
    exact ⟨ao, A.l.length, c, by rw [← hA]; rfl, rfl, hm, hm.res⟩
  have HD14 : Hid (∀ ao LN c W, Mid PS S vb XV w W (.slice ao LN c) A.l → ∀ v0 v1 v2 v3 v4 v5 v6 v7 v8 v9 v10 v11 v12 v13 : Value, (VAD PS S vb XV w (put14 W (w.heap.size + 1) v0 v1 v2 v3 v4 v5 v6 v7 v8 v9 v10 v11 v12 v13) ∧ (put14 W (w.heap.size + 1) v0 v1 v2 v3 v4 v5 v6 v7 v8 v9 v10 v11 v12 v13).ownsRow w.heap.size 9 1 (.slice ao LN c) A.l.length (strV A.l)) ∧ (put14 W (w.heap.size + 1) v0 v1 v2 v3 v4 v5 v6 v7 v8 v9 v10 v11 v12 v13).heap[w.heap.size + 1]? = some (.cells #[v0, v1, v2, v3, v4, v5, v6, v7, v8, v9, v10, v11, v12, v13] 34 (0, 0))) := fun ao LN c W hm v0 v1 v2 v3 v4 v5 v6 v7 v8 v9 v10 v11 v12 v13 => hm.done14 C v0 v1 v2 v3 v4 v5 v6 v7 v8 v9 v10 v11 v12 v13
  rw [← hA, ← hXV]
  clear hA hXV z1 z2 z3 z4 h hk hkk hsm hlow hc
  subst hX
  go_enter Tryz.func11, Tryz.ntmps11
  go_wp2_with (go_at_call 38; refine HP.out.mono ?_; rintro e w1 ⟨ao, LN, c, rfl, hln, hm1, hr1⟩; obtain ⟨⟨y0, y1, y2, y3, y4, y5, y6, y7, y8, y9, y10, y11, y12, y13⟩, g0, g1, g2, g3, g4, g5, g6, g7, g8, g9, g10, g11, g12, g13⟩ := at14 hr1)
  obtain ⟨⟨u1, u2⟩, u3⟩ := HD14.out ao LN c w1 hm1 (.string A.s) (.int .i64 A.n) (.int .i64 A.i0) (.int .i64 A.i1) (.int .i64 A.i2) (.int .i64 A.i3) (.string A.iname) (.int .i64 A.isz) (.slice ao LN c) (.bool A.bad) (.bool false) (.string A.op) (.string A.nm) (.int .i64 A.e)
  refine bodyPost_ret (results_one rfl _ _ (w.heap.size + 1) _ _ _ _ rfl u3 Tryz.underlying34 rfl sizeAns) rfl ?_
  exact ⟨ao, c, by rw [← hln.out]; rfl, u1, by rw [← hln.out]; rw [← hln.out] at u2; exact u2⟩
set_option maxRecDepth 20000 in
set_option maxHeartbeats 8000000 in
theorem call_11 (C : PC PS) (S : Nat → Prop) (vb : Nat) (x : Vl) (k : Nat) (n : Int) (a b : ByteArray) (m0 m1 m2 m3 : Int) (po : Option Addr) (pl pc : Nat) (co : Option Addr) (cl cc : Nat) (w : World) (h : VA PS S vb x w) (hk : Vlf x k) (hkk : k < 2097151) (hsm : a.size ≤ 140737488355328) :
    Calls Tryz.prog 11 #[.pointer (some ⟨vb, 0, none⟩), .agg #[.int .i64 11, .int .i64 n, .string a, .string b, .int .i64 m0, .int .i64 m1, .int .i64 m2, .int .i64 m3, .slice po pl pc, .slice co cl cc]] w fun e w' => Stepped PS S vb (x.call ⟨11, n, a, b, m0, m1, m2, m3⟩).1 (x.call ⟨11, n, a, b, m0, m1, m2, m3⟩).2 w w' e := by
  have hc : x.call ⟨11, n, a, b, m0, m1, m2, m3⟩ = x.byHandle ⟨11, n, a, b, m0, m1, m2, m3⟩ := rfl
  rw [hc]
  obtain ⟨X, hX⟩ : ∃ X, X = Obj.cells #[.int .i64 11, .int .i64 n, .string a, .string b, .int .i64 m0, .int .i64 m1, .int .i64 m2, .int .i64 m3, .slice po pl pc, .slice co cl cc] 39 := ⟨_, rfl⟩
  obtain ⟨z1, z2, z3, z4⟩ := mid_two (w := w) X
  have hlow := h.low
  obtain ⟨A, hA⟩ : ∃ A, A = (x.byHandle ⟨11, n, a, b, m0, m1, m2, m3⟩).1 := ⟨_, rfl⟩
  obtain ⟨XV, hXV⟩ : ∃ z, z = (x.byHandle ⟨11, n, a, b, m0, m1, m2, m3⟩).2 := ⟨_, rfl⟩
  have HP : Hid (Calls Tryz.prog 38 #[.pointer (some ⟨vb, 0, none⟩), .agg #[.int .i64 11, .int .i64 n, .string a, .string b, .int .i64 m0, .int .i64 m1, .int .i64 m2, .int .i64 m3, .slice po pl pc, .slice co cl cc]] ((w.alloc X).alloc (.cells ans0V 34)) fun e w' => ∃ ao LN c, e = .returned (.agg #[.string A.s, .int .i64 A.n, .int .i64 A.i0, .int .i64 A.i1, .int .i64 A.i2, .int .i64 A.i3, .string A.iname, .int .i64 A.isz, .slice ao LN c, .bool A.bad, .bool false, .string A.op, .string A.nm, .int .i64 A.e]) ∧ Hid (LN = A.l.length) ∧ Mid PS S vb XV w w' (.slice ao LN c) A.l ∧ w'.heap[w.heap.size + 1]? = some (.cells ans0V 34 (0, 0))) := by
    refine (byHandle_c C S vb x k n a b m0 m1 m2 m3 po pl pc co cl cc _ (h.below C z1) hk hkk hsm 11 (by omega)).mono ?_
    rintro e w' ⟨ao, c, rfl, hd, hr⟩
    rw [← hA] at hr
    rw [← hXV] at hd
    have hm := (mid_of C hd.1 hd.2 hlow z1 z3 (by omega)).withRow (own_mono hr (by omega))
    exact ⟨ao, A.l.length, c, by rw [← hA]; rfl, rfl, hm, hm.res⟩
  have HD14 : Hid (∀ ao LN c W, Mid PS S vb XV w W (.slice ao LN c) A.l → ∀ v0 v1 v2 v3 v4 v5 v6 v7 v8 v9 v10 v11 v12 v13 : Value, (VAD PS S vb XV w (put14 W (w.heap.size + 1) v0 v1 v2 v3 v4 v5 v6 v7 v8 v9 v10 v11 v12 v13) ∧ (put14 W (w.heap.size + 1) v0 v1 v2 v3 v4 v5 v6 v7 v8 v9 v10 v11 v12 v13).ownsRow w.heap.size 9 1 (.slice ao LN c) A.l.length (strV A.l)) ∧ (put14 W (w.heap.size + 1) v0 v1 v2 v3 v4 v5 v6 v7 v8 v9 v10 v11 v12 v13).heap[w.heap.size + 1]? = some (.cells #[v0, v1, v2, v3, v4, v5, v6, v7, v8, v9, v10, v11, v12, v13] 34 (0, 0))) := fun ao LN c W hm v0 v1 v2 v3 v4 v5 v6 v7 v8 v9 v10 v11 v12 v13 => hm.done14 C v0 v1 v2 v3 v4 v5 v6 v7 v8 v9 v10 v11 v12 v13
  rw [← hA, ← hXV]
  clear hA hXV z1 z2 z3 z4 h hk hkk hsm hlow hc
  subst hX
  go_enter Tryz.func11, Tryz.ntmps11
  go_wp2_with (go_at_call 38; refine HP.out.mono ?_; rintro e w1 ⟨ao, LN, c, rfl, hln, hm1, hr1⟩; obtain ⟨⟨y0, y1, y2, y3, y4, y5, y6, y7, y8, y9, y10, y11, y12, y13⟩, g0, g1, g2, g3, g4, g5, g6, g7, g8, g9, g10, g11, g12, g13⟩ := at14 hr1)
  obtain ⟨⟨u1, u2⟩, u3⟩ := HD14.out ao LN c w1 hm1 (.string A.s) (.int .i64 A.n) (.int .i64 A.i0) (.int .i64 A.i1) (.int .i64 A.i2) (.int .i64 A.i3) (.string A.iname) (.int .i64 A.isz) (.slice ao LN c) (.bool A.bad) (.bool false) (.string A.op) (.string A.nm) (.int .i64 A.e)
  refine bodyPost_ret (results_one rfl _ _ (w.heap.size + 1) _ _ _ _ rfl u3 Tryz.underlying34 rfl sizeAns) rfl ?_
  exact ⟨ao, c, by rw [← hln.out]; rfl, u1, by rw [← hln.out]; rw [← hln.out] at u2; exact u2⟩
set_option maxRecDepth 20000 in
set_option maxHeartbeats 8000000 in
theorem call_x (C : PC PS) (S : Nat → Prop) (vb : Nat) (x : Vl) (k : Nat) (n : Int) (a b : ByteArray) (m0 m1 m2 m3 : Int) (po : Option Addr) (pl pc : Nat) (co : Option Addr) (cl cc : Nat) (w : World) (h : VA PS S vb x w) (hk : Vlf x k) (hkk : k < 2097151) (kind : Int) (hK : kind < 1 ∨ 11 < kind) :
    Calls Tryz.prog 11 #[.pointer (some ⟨vb, 0, none⟩), .agg #[.int .i64 kind, .int .i64 n, .string a, .string b, .int .i64 m0, .int .i64 m1, .int .i64 m2, .int .i64 m3, .slice po pl pc, .slice co cl cc]] w fun e w' => Stepped PS S vb (x.call ⟨kind, n, a, b, m0, m1, m2, m3⟩).1 (x.call ⟨kind, n, a, b, m0, m1, m2, m3⟩).2 w w' e := by
  have hc : x.call ⟨kind, n, a, b, m0, m1, m2, m3⟩ = (an0, x) := by
    unfold Vl.call
    simp only
    rw [if_neg (by omega), if_neg (by omega), if_neg (by omega), if_neg (by omega), if_neg (by omega), if_neg (by omega), if_neg (by omega), if_neg (by omega)]
  rw [hc]
  have b1 : (kind == (1 : Int)) = false := by simp; omega
  have b2 : (kind == (2 : Int)) = false := by simp; omega
  have b3 : (kind == (3 : Int)) = false := by simp; omega
  have b4 : (kind == (4 : Int)) = false := by simp; omega
  have b5 : (kind == (5 : Int)) = false := by simp; omega
  have b6 : (kind == (6 : Int)) = false := by simp; omega
  have b7 : (kind == (7 : Int)) = false := by simp; omega
  have b8 : (kind == (8 : Int)) = false := by simp; omega
  have b9 : (kind == (9 : Int)) = false := by simp; omega
  have b10 : (kind == (10 : Int)) = false := by simp; omega
  have b11 : (kind == (11 : Int)) = false := by simp; omega
  have HE : Hid (∀ W, W = (w.alloc (.cells #[.int .i64 kind, .int .i64 n, .string a, .string b, .int .i64 m0, .int .i64 m1, .int .i64 m2, .int .i64 m3, .slice po pl pc, .slice co cl cc] 39)).alloc (.cells #[.string ⟨#[]⟩, .int .i64 0, .int .i64 0, .int .i64 0, .int .i64 0, .int .i64 0, .string ⟨#[]⟩, .int .i64 0, .slice none 0 0, .bool false, .bool false, .string ⟨#[]⟩, .string ⟨#[]⟩, .int .i64 0] 34) → W.heap[w.heap.size + 1]? = some (.cells #[.string ⟨#[]⟩, .int .i64 0, .int .i64 0, .int .i64 0, .int .i64 0, .int .i64 0, .string ⟨#[]⟩, .int .i64 0, .slice none 0 0, .bool false, .bool false, .string ⟨#[]⟩, .string ⟨#[]⟩, .int .i64 0] 34 (0, 0)) ∧ VAD PS S vb x w W) := fun W hW => by
    obtain ⟨z1, z2, z3, z4⟩ := mid_two (w := w) (.cells #[.int .i64 kind, .int .i64 n, .string a, .string b, .int .i64 m0, .int .i64 m1, .int .i64 m2, .int .i64 m3, .slice po pl pc, .slice co cl cc] 39)
    have e : W = (w.alloc (.cells #[.int .i64 kind, .int .i64 n, .string a, .string b, .int .i64 m0, .int .i64 m1, .int .i64 m2, .int .i64 m3, .slice po pl pc, .slice co cl cc] 39)).alloc (.cells ans0V 34) := hW
    rw [← e] at z1 z2 z3
    exact ⟨z3, (h.below C z1).mono (fun k hk => .inl hk) (fun k hk => by
      rcases hk with hk | hk
      · have := h.low k hk; omega
      · exact hk.2), Kp.of_below z1⟩
  clear hc hK h hk hkk
  go_enter Tryz.func11, Tryz.ntmps11
  go_wp2
  obtain ⟨u1, u2⟩ := HE.out _ rfl
  refine bodyPost_ret (results_one rfl _ _ (w.heap.size + 1) _ _ _ _ rfl u1 Tryz.underlying34 rfl sizeAns) rfl ?_
  exact ⟨none, 0, rfl, u2, World.ownsRow_nil _ _ _ _⟩
/-- A step, but for its plan and its cuts. -/
def Opv.c (o : Opv) : Cl := ⟨o.kind, o.n, o.a, o.b, o.m0, o.m1, o.m2, o.m3⟩
/-- A step of the Vol. -/
theorem call_c (C : PC PS) (S : Nat → Prop) (vb : Nat) (x : Vl) (k : Nat) (o : Opv) (w : World) (h : VA PS S vb x w) (hk : Vlf x k) (hkk : k < 2097151) (hpv : ∃ ao l c, o.pv = .slice ao l c) (hcv : ∃ ao l c, o.cv = .slice ao l c) (hsm : o.a.size ≤ 140737488355328) :
    Calls Tryz.prog 11 #[.pointer (some ⟨vb, 0, none⟩), o.v] w fun e w' => Stepped PS S vb (x.call o.c).1 (x.call o.c).2 w w' e := by
  obtain ⟨kind, n, a, b, m0, m1, m2, m3, pv, cv, plan, cuts⟩ := o
  obtain ⟨po, pl, pc, hpv⟩ := hpv
  obtain ⟨co, cl, cc, hcv⟩ := hcv
  simp only at hpv hcv hsm
  subst hpv; subst hcv
  unfold Opv.v Opv.c
  simp only
  by_cases h0 : kind < 1 ∨ 11 < kind
  · exact call_x C S vb x k n a b m0 m1 m2 m3 po pl pc co cl cc w h hk hkk kind h0
  · have : kind = 1 ∨ kind = 2 ∨ kind = 3 ∨ kind = 4 ∨ kind = 5 ∨ kind = 6 ∨ kind = 7 ∨ kind = 8 ∨ kind = 9 ∨ kind = 10 ∨ kind = 11 := by omega
    rcases this with rfl | rfl | rfl | rfl | rfl | rfl | rfl | rfl | rfl | rfl | rfl
    · exact call_1 C S vb x k n a b m0 m1 m2 m3 po pl pc co cl cc w h hk hkk
    · exact call_2 C S vb x k n a b m0 m1 m2 m3 po pl pc co cl cc w h hk hkk
    · exact call_3 C S vb x k n a b m0 m1 m2 m3 po pl pc co cl cc w h hk hkk
    · exact call_4 C S vb x k n a b m0 m1 m2 m3 po pl pc co cl cc w h hk hkk
    · exact call_5 C S vb x k n a b m0 m1 m2 m3 po pl pc co cl cc w h hk hkk
    · exact call_6 C S vb x k n a b m0 m1 m2 m3 po pl pc co cl cc w h hk hkk
    · exact call_7 C S vb x k n a b m0 m1 m2 m3 po pl pc co cl cc w h hk hkk
    · exact call_8 C S vb x k n a b m0 m1 m2 m3 po pl pc co cl cc w h hk hkk hsm
    · exact call_9 C S vb x k n a b m0 m1 m2 m3 po pl pc co cl cc w h hk hkk hsm
    · exact call_10 C S vb x k n a b m0 m1 m2 m3 po pl pc co cl cc w h hk hkk hsm
    · exact call_11 C S vb x k n a b m0 m1 m2 m3 po pl pc co cl cc w h hk hkk hsm
end Go.Proofs.YtjbphheojfclcaaGreat
