
-- The same lists, of numbers, entries, lists; the same libraries.
import Derived.Test.YtebgannhecmnmaaTW
namespace Go.Proofs.Ytebgannhecmnmaa
open Go.ChangeShapes Go.WideShapes Go.ChangeAt Go.RowKit Go.MapKept
set_option linter.unusedVariables false
set_option maxRecDepth 100000
theorem enS : Try.prog.stoodInHeld 41 = false := by kernel_rfl
theorem enU : Try.prog.underlying 41 = some (.struct (Try.prog.fieldsOf 41)) := by kernel_rfl
theorem run_equalIn_en (w : World) (a : ByteArray) (b : Int) : (Op.equalIn 10000 41 (.agg #[.string a, .int .i64 b]) (.agg #[.string a, .int .i64 b])).run Try.prog w = .ok true w := by
  have u3 := Try.underlying3
  have a3 := Try.isAgg3
  have z3 := Try.sizeOf3
  have u9 := Try.underlying9
  have a9 := Try.isAgg9
  have z9 := Try.sizeOf9
  rw [show (10000 : Nat) = 9999 + 1 from rfl, run_equalIn_agg w 9999 41 _ _ enU enS]
  simp only [Program.fieldsOf, Try.underlying41]
  go_simp
set_option maxHeartbeats 4000000 in
theorem samePlaces_c (v u : Value) (L : List Int) (w : World) (h : RowI w v L) (h' : RowI w u L) (hn : L.length < 4611686018427387904) :
    Calls Try.prog 48 #[v, u] w fun e w' => e = .returned (.bool true) ∧ Below w.heap.size w w' := by
  obtain ⟨a1, c1, q1, _, _⟩ := h.form
  obtain ⟨a2, c2, q2, _, _⟩ := h'.form
  obtain ⟨n, hnn⟩ : ∃ n, n = L.length := ⟨_, rfl⟩
  have HN := hidK hnn
  have HV := hidK h
  have HU := hidK h'
  subst q1 q2
  rw [← hnn] at hn ⊢ HV HU
  clear h h' hnn
  go_enter Try.func48, Try.ntmps48
  go_wp2
  go_loopw [5] (fun i wx => ∃ k : Nat, i = .int .i64 k ∧ k ≤ n ∧ Below w.heap.size w wx) (fun i _ => n - (intOf i).toNat)
  case atStart => exact ⟨0, rfl, Nat.zero_le _, Below.refl _ _⟩
  case round =>
    obtain ⟨k, rfl, hkn, hB⟩ := hrel
    by_cases hk : k < n
    · have kI : (k : Int) < (n : Int) := by omega
      have k0 : (0 : Int) ≤ (k : Int) := by omega
      have kw : IntKind.i64.wrap ((k : Int) + 1) = (k : Int) + 1 := by rw [IntKind.wrap_i64]; omega
      have hkl : k < L.length := by have := HN.out; omega
      obtain ⟨y, hy⟩ : ∃ x, L[k]? = some x := ⟨_, List.getElem?_eq_getElem hkl⟩
      obtain ⟨b1, o1, p1, e1, d0⟩ := (HV.out.on hB).nm hy
      obtain ⟨b2, o2, p2, e2, f0⟩ := (HU.out.on hB).nm hy
      injection e1 with e1 e1b e1c
      injection e2 with e2 e2b e2c
      subst e1 e2
      clear hy hkl e1b e1c e2b e2c HV HU
      go_wp2_with fail
      go_quiet (fail)
      have hB3 := belDrewN hB nq
      go_wp2
      go_roundw
      case rel => exact ⟨k + 1, by go_num, by omega, hB3⟩
      case measure => simp [intOf]; omega
    · obtain rfl : k = n := by omega
      clear HV HU
      go_wp2
      go_ret
      exact ⟨rfl, hB⟩
set_option maxHeartbeats 4000000 in
theorem sameEntries_c (v u : Value) (L : List (ByteArray × Int)) (w : World) (h : RowG enL w v L) (h' : RowG enL w u L) (hn : L.length < 4611686018427387904) :
    Calls Try.prog 47 #[v, u] w fun e w' => e = .returned (.bool true) ∧ Below w.heap.size w w' := by
  obtain ⟨a1, c1, q1, _, _⟩ := h.form
  obtain ⟨a2, c2, q2, _, _⟩ := h'.form
  obtain ⟨n, hnn⟩ : ∃ n, n = L.length := ⟨_, rfl⟩
  have HN := hidK hnn
  have HV := hidK h
  have HU := hidK h'
  subst q1 q2
  rw [← hnn] at hn ⊢ HV HU
  clear h h' hnn
  go_enter Try.func47, Try.ntmps47
  go_wp2
  go_loopw [5] (fun i wx => ∃ k : Nat, i = .int .i64 k ∧ k ≤ n ∧ Below w.heap.size w wx) (fun i _ => n - (intOf i).toNat)
  case atStart => exact ⟨0, rfl, Nat.zero_le _, Below.refl _ _⟩
  case round =>
    obtain ⟨k, rfl, hkn, hB⟩ := hrel
    by_cases hk : k < n
    · have kI : (k : Int) < (n : Int) := by omega
      have k0 : (0 : Int) ≤ (k : Int) := by omega
      have kw : IntKind.i64.wrap ((k : Int) + 1) = (k : Int) + 1 := by rw [IntKind.wrap_i64]; omega
      have hkl : k < L.length := by have := HN.out; omega
      obtain ⟨⟨p, q⟩, hy⟩ : ∃ x, L[k]? = some x := ⟨_, List.getElem?_eq_getElem hkl⟩
      obtain ⟨b1, o1, p1, e1, d0, d1⟩ := (HV.out.on hB).en hy
      obtain ⟨b2, o2, p2, e2, f0, f1⟩ := (HU.out.on hB).en hy
      injection e1 with e1 e1b e1c
      injection e2 with e2 e2b e2c
      subst e1 e2
      simp only at d0 d1 f0 f1
      have hE := fun W => run_equalIn_en W p q
      clear hy hkl e1b e1c e2b e2c HV HU
      go_wp2_with fail
      go_quiet (fail)
      have hB3 := belDrewN hB nq
      go_wp2
      go_roundw
      case rel => exact ⟨k + 1, by go_num, by omega, hB3⟩
      case measure => simp [intOf]; omega
    · obtain rfl : k = n := by omega
      clear HV HU
      go_wp2
      go_ret
      exact ⟨rfl, hB⟩
set_option maxHeartbeats 4000000 in
theorem sameLists_c (v u : Value) (LL : List (List ByteArray)) (w : World) (F : Nat → Prop) (h : RowLL F w v LL) (h' : RowLL F w u LL) (hn : LL.length < 4611686018427387904) (hi : ∀ l ∈ LL, l.length < 4611686018427387904) :
    Calls Try.prog 49 #[v, u] w fun e w' => e = .returned (.bool true) ∧ Below w.heap.size w w' := by
  obtain ⟨vs, h1, h2, h3⟩ := h
  obtain ⟨us, k1, k2, k3⟩ := h'
  obtain ⟨a1, c1, q1, _, _⟩ := h1.row.form
  obtain ⟨a2, c2, q2, _, _⟩ := k1.row.form
  obtain ⟨n, hnn⟩ : ∃ n, n = LL.length := ⟨_, rfl⟩
  rw [h2, ← hnn] at q1
  rw [k2, ← hnn] at q2
  have HN := hidK hnn
  have HV := hidK h1.row
  have HU := hidK k1.row
  subst q1 q2
  rw [← hnn] at hn
  have HLV : Hid (vs.length = n ∧ us.length = n) := ⟨by rw [h2, hnn], by rw [k2, hnn]⟩
  have HST : Hid (∀ (k : Nat) (x y : Value) (l : List ByteArray) (W : World), Below w.heap.size w W → vs[k]? = some x → us[k]? = some y → LL[k]? = some l → Calls Try.prog 15 #[x, y] W fun e w' => e = .returned (.bool true) ∧ Below W.heap.size W w') := fun k x y l W hb hx hy hl => sameTexts_c x y l W ((h3 k x l hx hl).row.on hb) ((k3 k y l hy hl).row.on hb) (hi l (List.mem_of_getElem? hl))
  clear h1 h2 h3 k1 k2 k3 hnn hi
  go_enter Try.func49, Try.ntmps49
  go_wp2
  go_loopw [5] (fun i wx => ∃ k : Nat, i = .int .i64 k ∧ k ≤ n ∧ Below w.heap.size w wx) (fun i _ => n - (intOf i).toNat)
  case atStart => exact ⟨0, rfl, Nat.zero_le _, Below.refl _ _⟩
  case round =>
    obtain ⟨k, rfl, hkn, hB⟩ := hrel
    by_cases hk : k < n
    · have kI : (k : Int) < (n : Int) := by omega
      have k0 : (0 : Int) ≤ (k : Int) := by omega
      have kw : IntKind.i64.wrap ((k : Int) + 1) = (k : Int) + 1 := by rw [IntKind.wrap_i64]; omega
      obtain ⟨l, hl⟩ : ∃ x, LL[k]? = some x := ⟨_, List.getElem?_eq_getElem (by have := HN.out; omega)⟩
      obtain ⟨x, hx⟩ : ∃ x, vs[k]? = some x := ⟨_, List.getElem?_eq_getElem (by have := HLV.out.1; omega)⟩
      obtain ⟨y, hy⟩ : ∃ x, us[k]? = some x := ⟨_, List.getElem?_eq_getElem (by have := HLV.out.2; omega)⟩
      obtain ⟨b1, o1, p1, e1, d0⟩ := (HV.out.on hB).va hx
      obtain ⟨b2, o2, p2, e2, f0⟩ := (HU.out.on hB).va hy
      injection e1 with e1 e1b e1c
      injection e2 with e2 e2b e2c
      subst e1 e2
      have HD0 := hidK d0
      have HF0 := hidK f0
      have hv0 : ∀ W, Below wr.heap.size wr W → W.cell? ⟨b1, o1 + k, none⟩ = some x := fun W hb => cell_onG HD0.out hb
      have hv1 : ∀ W, Below wr.heap.size wr W → W.cell? ⟨b2, o2 + k, none⟩ = some y := fun W hb => cell_onG HF0.out hb
      have HC : Hid (∀ W, Below wr.heap.size wr W → Calls Try.prog 15 #[x, y] W fun e w' => e = .returned (.bool true) ∧ Below wr.heap.size wr w') := fun W hb => (HST.out k x y l W (hB.trans (hb.mono hB.size)) hx hy hl).mono (by
        rintro e w' ⟨q1, q2⟩
        exact ⟨q1, bel3K hb q2⟩)
      have HB0 := hidK hB
      have hb0 : Below wr.heap.size wr wr := Below.refl _ _
      clear hl hx hy e1b e1c e2b e2c HV HU hB d0 f0
      go_upto_region 6 with fail
      go_region_held3 (fun w' => Below wr.heap.size wr w') (first | assumption | exact hb0.drew | exact hSw.drew) (first
        | (go_at_call 15; refine (HC.out _ (by assumption)).mono ?_; rintro e w6 ⟨rfl, hS6⟩))
      have HS6 := hidK hS6
      clear hv0 hv1 hb0 hS6
      go_wp2
      go_roundw
      case rel => exact ⟨k + 1, by go_num, by omega, HB0.out.trans (HS6.out.mono HB0.out.size)⟩
      case measure => simp [intOf]; omega
    · obtain rfl : k = n := by omega
      clear HV HU
      go_wp2
      go_ret
      exact ⟨rfl, hB⟩
/-- lengths that a library may have -/
structure LbOk (L : Lb) : Prop where
  e : L.e.length ≤ 1048576
  a : L.a.length ≤ 1048576
  n : L.n.length ≤ 1048576
  df : L.df.length ≤ 1048576
  nd : L.nd.length ≤ 1048576
  f : ∀ l ∈ L.df, l.length ≤ 1048576
  g : ∀ l ∈ L.nd, l.length ≤ 1048576
set_option maxHeartbeats 8000000 in
theorem sameLibrary_c (v0 v1 v2 v3 v4 u0 u1 u2 u3 u4 : Value) (L : Lb) (w : World) (F : Nat → Prop) (h : LibAt F w v0 v1 v2 v3 v4 L) (h' : LibAt F w u0 u1 u2 u3 u4 L) (hL : LbOk L) :
    Calls Try.prog 26 #[.agg #[v0, v1, v2, v3, v4], .agg #[u0, u1, u2, u3, u4]] w fun e w' => e = .returned (.bool true) ∧ Below w.heap.size w w' := by
  obtain ⟨X, hX⟩ : ∃ X, X = Obj.cells #[v0, v1, v2, v3, v4] 37 := ⟨_, rfl⟩
  obtain ⟨Y, hY⟩ : ∃ Y, Y = Obj.cells #[u0, u1, u2, u3, u4] 37 := ⟨_, rfl⟩
  obtain ⟨w1, hw1⟩ : ∃ w1, w1 = (w.alloc X).alloc Y := ⟨_, rfl⟩
  have hb1 : Below w.heap.size w w1 := by rw [hw1]; exact ((Below.refl _ w).alloc (Nat.le_refl _) X).alloc (by simp) Y
  have x0 : w1.heap[w.heap.size]? = some (.cells #[v0, v1, v2, v3, v4] 37 (0, 0)) := by rw [hw1]; exact hupK (by rw [heap_alloc_new, hX]) Y
  have y0 : w1.heap[w.heap.size + 1]? = some (.cells #[u0, u1, u2, u3, u4] 37 (0, 0)) := by rw [hw1, heap_new2K, hY]
  have HC : Hid (∀ W, Below w1.heap.size w1 W → (W.cell? ⟨w.heap.size, 0, none⟩ = some v0 ∧ W.cell? ⟨w.heap.size, 1, none⟩ = some v1 ∧ W.cell? ⟨w.heap.size, 2, none⟩ = some v2 ∧ W.cell? ⟨w.heap.size, 3, none⟩ = some v3 ∧ W.cell? ⟨w.heap.size, 4, none⟩ = some v4) ∧ (W.cell? ⟨w.heap.size + 1, 0, none⟩ = some u0 ∧ W.cell? ⟨w.heap.size + 1, 1, none⟩ = some u1 ∧ W.cell? ⟨w.heap.size + 1, 2, none⟩ = some u2 ∧ W.cell? ⟨w.heap.size + 1, 3, none⟩ = some u3 ∧ W.cell? ⟨w.heap.size + 1, 4, none⟩ = some u4)) := fun W hb => ⟨lib_cells (hkeepK hb x0), lib_cells (hkeepK hb y0)⟩
  have up : ∀ W, Below w1.heap.size w1 W → LibAt F W v0 v1 v2 v3 v4 L ∧ LibAt F W u0 u1 u2 u3 u4 L := fun W hb => by
    have hbw : Below w.heap.size w W := hb1.trans (hb.mono hb1.size)
    exact ⟨h.kp (Kp.of_below hbw), h'.kp (Kp.of_below hbw)⟩
  have H0 : Hid (∀ W, Below w1.heap.size w1 W → Calls Try.prog 47 #[v0, u0] W fun e w' => e = .returned (.bool true) ∧ Below w1.heap.size w1 w') := fun W hb => (sameEntries_c v0 u0 L.e W (up W hb).1.e.row (up W hb).2.e.row (by have := hL.e; omega)).mono (by
    rintro e w' ⟨q1, q2⟩; exact ⟨q1, bel3K hb q2⟩)
  have H1 : Hid (∀ W, Below w1.heap.size w1 W → Calls Try.prog 48 #[v1, u1] W fun e w' => e = .returned (.bool true) ∧ Below w1.heap.size w1 w') := fun W hb => (samePlaces_c v1 u1 L.a W (up W hb).1.a.row (up W hb).2.a.row (by have := hL.a; omega)).mono (by
    rintro e w' ⟨q1, q2⟩; exact ⟨q1, bel3K hb q2⟩)
  have H2 : Hid (∀ W, Below w1.heap.size w1 W → Calls Try.prog 15 #[v2, u2] W fun e w' => e = .returned (.bool true) ∧ Below w1.heap.size w1 w') := fun W hb => (sameTexts_c v2 u2 L.n W (up W hb).1.n.row (up W hb).2.n.row (by have := hL.n; omega)).mono (by
    rintro e w' ⟨q1, q2⟩; exact ⟨q1, bel3K hb q2⟩)
  have H3 : Hid (∀ W, Below w1.heap.size w1 W → Calls Try.prog 49 #[v3, u3] W fun e w' => e = .returned (.bool true) ∧ Below w1.heap.size w1 w') := fun W hb => (sameLists_c v3 u3 L.df W F (up W hb).1.f (up W hb).2.f (by have := hL.df; omega) (fun l hl => by have := hL.f l hl; omega)).mono (by
    rintro e w' ⟨q1, q2⟩; exact ⟨q1, bel3K hb q2⟩)
  have H4 : Hid (∀ W, Below w1.heap.size w1 W → Calls Try.prog 49 #[v4, u4] W fun e w' => e = .returned (.bool true) ∧ Below w1.heap.size w1 w') := fun W hb => (sameLists_c v4 u4 L.nd W F (up W hb).1.g (up W hb).2.g (by have := hL.nd; omega) (fun l hl => by have := hL.g l hl; omega)).mono (by
    rintro e w' ⟨q1, q2⟩; exact ⟨q1, bel3K hb q2⟩)
  have HB1 := hidK hb1
  clear h h' hL hb1 x0 y0 up
  subst hX hY
  go_enter Try.func26, Try.ntmps26
  go_upto_region 1 with fail
  rw [← hw1]
  clear hw1
  obtain ⟨⟨c0, c1, c2, c3, c4⟩, ⟨d0, d1, d2, d3, d4⟩⟩ := HC.out w1 (Below.refl _ _)
  go_upto_region 2 with (first
    | (go_at_call 47; refine (H0.out _ (Below.refl _ _)).mono ?_; rintro e w2 ⟨rfl, q1⟩; obtain ⟨⟨x0, x1, x2, x3, x4⟩, ⟨y0, y1, y2, y3, y4⟩⟩ := HC.out _ q1; have HQ2 := hidK q1; clear q1)
    | (go_at_call 48; refine (H1.out _ HQ2.out).mono ?_; rintro e w3 ⟨rfl, q1⟩; obtain ⟨⟨m0, m1, m2, m3, m4⟩, ⟨n0, n1, n2, n3, n4⟩⟩ := HC.out _ q1; have HQ3 := hidK q1; clear q1)
    | (go_at_call 15; refine (H2.out _ HQ3.out).mono ?_; rintro e w4 ⟨rfl, q1⟩; have HQ4 := hidK q1; clear q1))
  clear c0 c1 c2 c3 c4 d0 d1 d2 d3 d4 x0 x1 x2 x3 x4 y0 y1 y2 y3 y4 m0 m1 m2 m3 m4 n0 n1 n2 n3 n4 H0 H1 H2
  obtain ⟨⟨c0, c1, c2, c3, c4⟩, ⟨d0, d1, d2, d3, d4⟩⟩ := HC.out w4 HQ4.out
  go_wp2_with (first
    | (go_at_call_of 49 v3; refine (H3.out _ HQ4.out).mono ?_; rintro e w5 ⟨rfl, q1⟩; obtain ⟨⟨x0, x1, x2, x3, x4⟩, ⟨y0, y1, y2, y3, y4⟩⟩ := HC.out _ q1; have HQ5 := hidK q1; clear q1)
    | (go_at_call_of 49 v4; refine (H4.out _ HQ5.out).mono ?_; rintro e w6 ⟨rfl, q1⟩; have HQ6 := hidK q1; clear q1))
  go_ret
  exact ⟨rfl, HB1.out.trans (HQ6.out.mono HB1.out.size)⟩
set_option maxHeartbeats 8000000 in
theorem sameLibraries_c (v u : Value) (lvs lus : List Lv) (Ls : List Lb) (w : World) (F : Nat → Prop) (h : LibsAt F w v lvs Ls) (h' : LibsAt F w u lus Ls) (hn : Ls.length ≤ 1048576) (hL : ∀ L ∈ Ls, LbOk L) :
    Calls Try.prog 32 #[v, u] w fun e w' => e = .returned (.bool true) ∧ Below w.heap.size w w' := by
  obtain ⟨a1, c1, q1, _, _⟩ := h.row.row.form
  obtain ⟨a2, c2, q2, _, _⟩ := h'.row.row.form
  obtain ⟨n, hnn⟩ : ∃ n, n = Ls.length := ⟨_, rfl⟩
  rw [h.len, ← hnn] at q1
  rw [h'.len, ← hnn] at q2
  have HN := hidK hnn
  subst q1 q2
  rw [← hnn] at hn
  have HV : Hid (∀ W, Below w.heap.size w W → LibsAt F W (.slice a1 n c1) lvs Ls ∧ LibsAt F W (.slice a2 n c2) lus Ls) := fun W hb => ⟨h.kp (Kp.of_below hb), h'.kp (Kp.of_below hb)⟩
  have HLV : Hid (lvs.length = n ∧ lus.length = n) := ⟨by rw [h.len, hnn], by rw [h'.len, hnn]⟩
  have HLB := hidK hL
  clear h h' hnn hL
  go_enter Try.func32, Try.ntmps32
  go_wp2
  go_loopw [5] (fun i wx => ∃ k : Nat, i = .int .i64 k ∧ k ≤ n ∧ Below w.heap.size w wx) (fun i _ => n - (intOf i).toNat)
  case atStart => exact ⟨0, rfl, Nat.zero_le _, Below.refl _ _⟩
  case round =>
    obtain ⟨k, rfl, hkn, hB⟩ := hrel
    by_cases hk : k < n
    · have kI : (k : Int) < (n : Int) := by omega
      have k0 : (0 : Int) ≤ (k : Int) := by omega
      have kw : IntKind.i64.wrap ((k : Int) + 1) = (k : Int) + 1 := by rw [IntKind.wrap_i64]; omega
      obtain ⟨L, hl⟩ : ∃ x, Ls[k]? = some x := ⟨_, List.getElem?_eq_getElem (by have := HN.out; omega)⟩
      obtain ⟨⟨x0, x1, x2, x3, x4⟩, hx⟩ : ∃ x, lvs[k]? = some x := ⟨_, List.getElem?_eq_getElem (by have := HLV.out.1; omega)⟩
      obtain ⟨⟨y0, y1, y2, y3, y4⟩, hy⟩ : ∃ x, lus[k]? = some x := ⟨_, List.getElem?_eq_getElem (by have := HLV.out.2; omega)⟩
      obtain ⟨b1, o1, p1, e1, _⟩ := (HV.out _ hB).1.row.row.lv hx
      obtain ⟨b2, o2, p2, e2, _⟩ := (HV.out _ hB).2.row.row.lv hy
      injection e1 with e1 e1b e1c
      injection e2 with e2 e2b e2c
      subst e1 e2
      have HB0 := hidK hB
      have HCV : Hid (∀ W, Below wr.heap.size wr W → W.cell? ⟨b1, o1 + k * 5, none⟩ = some x0 ∧ W.cell? ⟨b1, o1 + k * 5 + 1, none⟩ = some x1 ∧ W.cell? ⟨b1, o1 + k * 5 + 2, none⟩ = some x2 ∧ W.cell? ⟨b1, o1 + k * 5 + 3, none⟩ = some x3 ∧ W.cell? ⟨b1, o1 + k * 5 + 4, none⟩ = some x4) := fun W hb => by
        obtain ⟨b1', o1', p1', ev', d0, d1, d2, d3, d4⟩ := (HV.out W (HB0.out.trans (hb.mono HB0.out.size))).1.row.row.lv hx
        injection ev' with ev' _ _
        injection ev' with ev'
        injection ev' with q1 q2 _
        subst q1 q2
        exact ⟨d0, d1, d2, d3, d4⟩
      have HCU : Hid (∀ W, Below wr.heap.size wr W → W.cell? ⟨b2, o2 + k * 5, none⟩ = some y0 ∧ W.cell? ⟨b2, o2 + k * 5 + 1, none⟩ = some y1 ∧ W.cell? ⟨b2, o2 + k * 5 + 2, none⟩ = some y2 ∧ W.cell? ⟨b2, o2 + k * 5 + 3, none⟩ = some y3 ∧ W.cell? ⟨b2, o2 + k * 5 + 4, none⟩ = some y4) := fun W hb => by
        obtain ⟨b1', o1', p1', ev', d0, d1, d2, d3, d4⟩ := (HV.out W (HB0.out.trans (hb.mono HB0.out.size))).2.row.row.lv hy
        injection ev' with ev' _ _
        injection ev' with ev'
        injection ev' with q1 q2 _
        subst q1 q2
        exact ⟨d0, d1, d2, d3, d4⟩
      have hv0 : ∀ W, Below wr.heap.size wr W → W.cell? ⟨b1, o1 + k * 5, none⟩ = some x0 := fun W hb => (HCV.out W hb).1
      have hv1 : ∀ W, Below wr.heap.size wr W → W.cell? ⟨b1, o1 + k * 5 + 1, none⟩ = some x1 := fun W hb => (HCV.out W hb).2.1
      have hv2 : ∀ W, Below wr.heap.size wr W → W.cell? ⟨b1, o1 + k * 5 + 2, none⟩ = some x2 := fun W hb => (HCV.out W hb).2.2.1
      have hv3 : ∀ W, Below wr.heap.size wr W → W.cell? ⟨b1, o1 + k * 5 + 3, none⟩ = some x3 := fun W hb => (HCV.out W hb).2.2.2.1
      have hv4 : ∀ W, Below wr.heap.size wr W → W.cell? ⟨b1, o1 + k * 5 + 4, none⟩ = some x4 := fun W hb => (HCV.out W hb).2.2.2.2
      have hu0 : ∀ W, Below wr.heap.size wr W → W.cell? ⟨b2, o2 + k * 5, none⟩ = some y0 := fun W hb => (HCU.out W hb).1
      have hu1 : ∀ W, Below wr.heap.size wr W → W.cell? ⟨b2, o2 + k * 5 + 1, none⟩ = some y1 := fun W hb => (HCU.out W hb).2.1
      have hu2 : ∀ W, Below wr.heap.size wr W → W.cell? ⟨b2, o2 + k * 5 + 2, none⟩ = some y2 := fun W hb => (HCU.out W hb).2.2.1
      have hu3 : ∀ W, Below wr.heap.size wr W → W.cell? ⟨b2, o2 + k * 5 + 3, none⟩ = some y3 := fun W hb => (HCU.out W hb).2.2.2.1
      have hu4 : ∀ W, Below wr.heap.size wr W → W.cell? ⟨b2, o2 + k * 5 + 4, none⟩ = some y4 := fun W hb => (HCU.out W hb).2.2.2.2
      have HC : Hid (∀ W, Below wr.heap.size wr W → Calls Try.prog 26 #[.agg #[x0, x1, x2, x3, x4], .agg #[y0, y1, y2, y3, y4]] W fun e w' => e = .returned (.bool true) ∧ Below wr.heap.size wr w') := fun W hb => by
        obtain ⟨q1, q2⟩ := HV.out W (HB0.out.trans (hb.mono HB0.out.size))
        exact (sameLibrary_c _ _ _ _ _ _ _ _ _ _ L W F (q1.ea k _ L hx hl) (q2.ea k _ L hy hl) (HLB.out L (List.mem_of_getElem? hl))).mono (by
          rintro e w' ⟨q1, q2⟩
          exact ⟨q1, bel3K hb q2⟩)
      have hb0 : Below wr.heap.size wr wr := Below.refl _ _
      clear hl hx hy e1b e1c e2b e2c hB
      go_upto_region 6 with fail
      go_region_held3 (fun w' => Below wr.heap.size wr w') (first | assumption | exact hb0.drew | exact hSw.drew) (first
        | (go_at_call 26; refine (HC.out _ (by assumption)).mono ?_; rintro e w6 ⟨rfl, hS6⟩))
      have HS6 := hidK hS6
      clear hv0 hv1 hv2 hv3 hv4 hu0 hu1 hu2 hu3 hu4 hb0 hS6
      go_wp2
      go_roundw
      case rel => exact ⟨k + 1, by go_num, by omega, HB0.out.trans (HS6.out.mono HB0.out.size)⟩
      case measure => simp [intOf]; omega
    · obtain rfl : k = n := by omega
      go_wp2
      go_ret
      exact ⟨rfl, hB⟩
end Go.Proofs.Ytebgannhecmnmaa
