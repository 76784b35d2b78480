
-- The document's has, index, taken, copied, without, element.
import Derived.Test.YtebgannhecmnmaaHB
namespace Go.Proofs.Ytebgannhecmnmaa
open Go.ChangeShapes Go.WideShapes Go.ChangeAt Go.RowKit Go.MapKept
set_option linter.unusedVariables false
set_option maxRecDepth 100000
set_option maxHeartbeats 2000000 in
theorem rhas_c (v : Value) (L : List ByteArray) (x : ByteArray) (w : World) (h : RowT w v L) (hn : L.length < 4611686018427387904) :
    Calls Try.prog 58 #[v, .string x] w fun e w' => e = .returned (.bool (isIn L x)) ∧ w' = w := by
  obtain ⟨a1, c1, q1, _, _⟩ := h.form
  obtain ⟨n, hnn⟩ : ∃ n, n = L.length := ⟨_, rfl⟩
  have HN := hidK hnn
  have HV := hidK h
  subst q1
  rw [← hnn] at hn ⊢ HV
  clear h hnn
  go_enter Try.func58, Try.ntmps58
  go_wp2
  go_loopw [5] (fun i wx => ∃ k : Nat, i = .int .i64 k ∧ k ≤ n ∧ x ∉ L.take k ∧ wx = w) (fun i _ => n - (intOf i).toNat)
  case atStart => exact ⟨0, rfl, Nat.zero_le _, by simp, rfl⟩
  case round =>
    obtain ⟨k, rfl, hkn, ho, hB⟩ := hrel
    subst wr
    have HO := hidK ho
    clear ho
    by_cases hk : k < n
    · have kI : (k : Int) < (n : Int) := by omega
      have k0 : (0 : Int) ≤ (k : Int) := by omega
      have kw : IntKind.i64.wrap ((k : Int) + 1) = (k : Int) + 1 := by rw [IntKind.wrap_i64]; omega
      have hkl : k < L.length := by have := HN.out; omega
      obtain ⟨y, hy⟩ : ∃ x, L[k]? = some x := ⟨_, List.getElem?_eq_getElem hkl⟩
      obtain ⟨b1, o1, p1, e1, d0⟩ := HV.out.tx hy
      have HY := hidK hy
      injection e1 with e1 e1b e1c
      subst e1
      clear hy hkl e1b e1c HV
      by_cases hxy : y = x
      · subst hxy
        go_wp2
        go_ret
        refine ⟨?_, rfl⟩
        rw [isIn_iff.2 (List.mem_of_getElem? HY.out)]
        rfl
      · have hne := strNe18 hxy
        have HNE := hidK hxy
        clear hxy
        go_wp2
        go_roundw
        case rel =>
          refine ⟨k + 1, by go_num, by omega, ?_, by first | rfl | trivial⟩
          rw [takeSucc HY.out]
          intro hm
          rcases List.mem_append.1 hm with q | q
          · exact HO.out q
          · exact HNE.out (List.mem_singleton.1 q).symm
        case measure => simp [intOf]; omega
    · obtain rfl : k = n := by omega
      clear HV
      go_wp2
      go_ret
      refine ⟨?_, rfl⟩
      have := HO.out
      rw [HN.out, List.take_length] at this
      rw [isIn_no.2 this]
      rfl
set_option maxHeartbeats 4000000 in
theorem rtaken_c (v : Value) (L : List (Int × Int)) (x y : Int) (w : World) (h : RowP w v L) (hn : L.length < 4611686018427387904) :
    Calls Try.prog 60 #[v, .agg #[.int .i64 x, .int .i64 y]] w fun e w' => e = .returned (.bool (isIn L (x, y))) ∧ Below w.heap.size w w' := by
  obtain ⟨a1, c1, q1, _, _⟩ := h.form
  obtain ⟨n, hnn⟩ : ∃ n, n = L.length := ⟨_, rfl⟩
  have HN := hidK hnn
  subst q1
  rw [← hnn] at hn ⊢
  obtain ⟨X, hX⟩ : ∃ X, X = Obj.cells #[.int .i64 x, .int .i64 y] 30 := ⟨_, rfl⟩
  obtain ⟨w1, hw1⟩ : ∃ w1, w1 = w.alloc X := ⟨_, rfl⟩
  have hb1 : Below w.heap.size w w1 := by rw [hw1]; exact (Below.refl _ w).alloc (Nat.le_refl _) X
  have x0 : w1.heap[w.heap.size]? = some (.cells #[.int .i64 x, .int .i64 y] 30 (0, 0)) := by rw [hw1, heap_alloc_new, hX]
  have HX0 := hidK x0
  have HV := hidK (h.on hb1)
  rw [← hnn] at HV
  have HB1 := hidK hb1
  clear h hnn hb1 x0
  subst hX
  go_enter Try.func60, Try.ntmps60
  go_upto_region 1 with fail
  rw [← hw1]
  clear hw1
  go_wp2
  go_loopw [5] (fun i wx => ∃ k : Nat, i = .int .i64 k ∧ k ≤ n ∧ (x, y) ∉ L.take k ∧ Below w1.heap.size w1 wx) (fun i _ => n - (intOf i).toNat)
  case atStart => exact ⟨0, rfl, Nat.zero_le _, by simp, Below.refl _ _⟩
  case round =>
    obtain ⟨k, rfl, hkn, ho, hB⟩ := hrel
    have HO := hidK ho
    clear ho
    have hB2 : Below w.heap.size w wr := HB1.out.trans (hB.mono HB1.out.size)
    by_cases hk : k < n
    · have kI : (k : Int) < (n : Int) := by omega
      have k0 : (0 : Int) ≤ (k : Int) := by omega
      have kw : IntKind.i64.wrap ((k : Int) + 1) = (k : Int) + 1 := by rw [IntKind.wrap_i64]; omega
      have hkl : k < L.length := by have := HN.out; omega
      obtain ⟨⟨p, q⟩, hy⟩ : ∃ x, L[k]? = some x := ⟨_, List.getElem?_eq_getElem hkl⟩
      obtain ⟨b1, o1, p1, e1, d0, d1⟩ := (HV.out.on hB).pa hy
      obtain ⟨g0, g1⟩ := rowP_box (hkeepK hB HX0.out)
      have HY := hidK hy
      injection e1 with e1 e1b e1c
      subst e1
      simp only at d0 d1
      have hE := fun W => run_equalIn_pl W p q x y
      clear hy hkl e1b e1c HV
      by_cases hxy : p = x ∧ q = y
      · have hd : decide (p = x ∧ q = y) = true := decide_eq_true hxy
        simp only [hd] at hE
        obtain ⟨rfl, rfl⟩ := hxy
        clear hd
        go_wp2_with fail
        go_quiet (fail)
        have hB3 := belDrewN hB2 nq
        go_wp2
        go_ret
        refine ⟨?_, hB3⟩
        rw [isIn_iff.2 (List.mem_of_getElem? HY.out)]
        rfl
      · have hd : decide (p = x ∧ q = y) = false := decide_eq_false hxy
        simp only [hd] at hE
        have HNE := hidK hxy
        clear hxy hd
        go_wp2_with fail
        go_quiet (fail)
        have hB3 := belDrewN hB nq
        go_wp2
        go_roundw
        case rel =>
          refine ⟨k + 1, by go_num, by omega, ?_, hB3⟩
          rw [takeSucc HY.out]
          intro hm
          rcases List.mem_append.1 hm with z | z
          · exact HO.out z
          · have := List.mem_singleton.1 z
            injection this with z1 z2
            exact HNE.out ⟨z1.symm, z2.symm⟩
        case measure => simp [intOf]; omega
    · obtain rfl : k = n := by omega
      have HI : Hid (isIn L (x, y) = false) := isIn_no.2 (by have := HO.out; rw [HN.out, List.take_length] at this; exact this)
      clear HV
      go_wp2
      go_ret
      rw [HI.out]
      exact ⟨rfl, hB2⟩
set_option maxHeartbeats 2000000 in
theorem rindex_c (v : Value) (L : List Int) (x : Int) (w : World) (h : RowI w v L) (hn : L.length < 4611686018427387904) :
    Calls Try.prog 59 #[v, .int .i64 x] w fun e w' => e = .returned (.int .i64 (idxI L x)) ∧ w' = w := by
  obtain ⟨a1, c1, q1, _, _⟩ := h.form
  obtain ⟨n, hnn⟩ : ∃ n, n = L.length := ⟨_, rfl⟩
  have HN := hidK hnn
  have HV := hidK h
  subst q1
  rw [← hnn] at hn ⊢ HV
  clear h hnn
  go_enter Try.func59, Try.ntmps59
  go_wp2
  go_loopw [5] (fun i wx => ∃ k : Nat, i = .int .i64 k ∧ k ≤ n ∧ x ∉ L.take k ∧ wx = w) (fun i _ => n - (intOf i).toNat)
  case atStart => exact ⟨0, rfl, Nat.zero_le _, by simp, rfl⟩
  case round =>
    obtain ⟨k, rfl, hkn, ho, hB⟩ := hrel
    subst wr
    have HO := hidK ho
    clear ho
    by_cases hk : k < n
    · have kI : (k : Int) < (n : Int) := by omega
      have k0 : (0 : Int) ≤ (k : Int) := by omega
      have kw : IntKind.i64.wrap ((k : Int) + 1) = (k : Int) + 1 := by rw [IntKind.wrap_i64]; omega
      have hkl : k < L.length := by have := HN.out; omega
      obtain ⟨y, hy⟩ : ∃ x, L[k]? = some x := ⟨_, List.getElem?_eq_getElem hkl⟩
      obtain ⟨b1, o1, p1, e1, d0⟩ := HV.out.nm hy
      have HY := hidK hy
      injection e1 with e1 e1b e1c
      subst e1
      clear hy hkl e1b e1c HV
      by_cases hxy : y = x
      · subst hxy
        have HI := hidK (idxI_some HY.out HO.out)
        go_wp2
        go_ret
        rw [HI.out]
        exact ⟨rfl, rfl⟩
      · have hne : (y == x) = false := by simpa using hxy
        have HNE := hidK hxy
        clear hxy
        go_wp2
        go_roundw
        case rel =>
          refine ⟨k + 1, by go_num, by omega, ?_, by first | rfl | trivial⟩
          rw [takeSucc HY.out]
          intro hm
          rcases List.mem_append.1 hm with q | q
          · exact HO.out q
          · exact HNE.out (List.mem_singleton.1 q).symm
        case measure => simp [intOf]; omega
    · obtain rfl : k = n := by omega
      have HI : Hid (idxI L x = -1) := idxI_none (by have := HO.out; rw [HN.out, List.take_length] at this; exact this)
      clear HV
      go_wp2
      go_ret
      rw [HI.out]
      exact ⟨rfl, rfl⟩
set_option maxHeartbeats 4000000 in
theorem rcopied_c (v : Value) (L : List ByteArray) (w : World) (h : RowT w v L) (hn : L.length ≤ 4398046511104) :
    Calls Try.prog 57 #[v] w fun e w' => ∃ u, e = .returned u ∧ OwnF (fun b => w.heap.size ≤ b) txL 1 9 w' u L ∧ Below w.heap.size w w' := by
  obtain ⟨a1, c1, q1, _, _⟩ := h.form
  obtain ⟨n, hnn⟩ : ∃ n, n = L.length := ⟨_, rfl⟩
  have HN := hidK hnn
  have HV := hidK h
  subst q1
  rw [← hnn] at hn ⊢ HV
  clear h hnn
  go_enter Try.func57, Try.ntmps57
  go_wp2
  go_loopw [3, 4] (fun o i wx => ∃ k : Nat, i = .int .i64 k ∧ k ≤ n ∧ OwnF (fun b => w.heap.size ≤ b) txL 1 9 wx o (L.take k) ∧ Below w.heap.size w wx) (fun _ i _ => n - (intOf i).toNat)
  case atStart => exact ⟨0, rfl, Nat.zero_le _, OwnF.nil, Below.refl _ _⟩
  case round =>
    obtain ⟨k, rfl, hkn, ho, hB⟩ := hrel
    have HO := hidK ho
    have HB0 := hidK hB
    clear ho
    by_cases hk : k < n
    · have kI : (k : Int) < (n : Int) := by omega
      have k0 : (0 : Int) ≤ (k : Int) := by omega
      have kw : IntKind.i64.wrap ((k : Int) + 1) = (k : Int) + 1 := by rw [IntKind.wrap_i64]; omega
      have hkl : k < L.length := by have := HN.out; omega
      obtain ⟨y, hy⟩ : ∃ x, L[k]? = some x := ⟨_, List.getElem?_eq_getElem hkl⟩
      obtain ⟨b1, o1, p1, e1, d0⟩ := (HV.out.on hB).tx hy
      have HY := hidK hy
      have HKL : Hid ((L.take k).length = k) := lenTake (Nat.le_of_lt hkl)
      injection e1 with e1 e1b e1c
      subst e1
      clear hy hkl e1b e1c HV hB
      go_wp2_with (refine wpG_one elT rfl (.tmp 11) (.tmp 16) rfl _ (L.take k) y #[.string y] rfl rfl rfl HO.out (txL_one y) (by have := HKL.out; omega) (fun b hb => Nat.le_trans HB0.out.size hb) ?_; intro v4 w4 o4 k4 l4; have HO4 := hidK o4; have HK4 := hidK k4; clear o4 k4 l4)
      go_roundw
      case rel => exact ⟨k + 1, by go_num, by omega, by rw [takeSucc HY.out]; exact HO4.out, HB0.out.trans (HK4.out.below (fun b hb => HO.out.2 b hb) HB0.out.size)⟩
      case measure => simp [intOf]; omega
    · obtain rfl : k = n := by omega
      clear HV
      have HO2 : Hid (OwnF (fun b => w.heap.size ≤ b) txL 1 9 wr u3 L) := by have := HO.out; rw [HN.out, List.take_length] at this; exact this
      go_wp2
      go_ret
      exact ⟨_, rfl, HO2.out, HB0.out⟩
theorem woN_take {L : List ByteArray} {k : Nat} {y x : ByteArray} (h : L[k]? = some y) : woN (L.take (k + 1)) x = if y = x then woN (L.take k) x else woN (L.take k) x ++ [y] := by
  rw [takeSucc h]
  unfold woN
  rw [List.filter_append]
  by_cases e : y = x
  · subst e; simp
  · simp [e]
set_option maxHeartbeats 4000000 in
theorem rwithout_c (v : Value) (L : List ByteArray) (x : ByteArray) (w : World) (h : RowT w v L) (hn : L.length ≤ 4398046511104) :
    Calls Try.prog 62 #[v, .string x] w fun e w' => ∃ a l c, e = .returned (.slice a l c) ∧ OwnF (fun b => w.heap.size ≤ b) txL 1 9 w' (.slice a l c) (woN L x) ∧ Below w.heap.size w w' := by
  obtain ⟨a1, c1, q1, _, _⟩ := h.form
  obtain ⟨n, hnn⟩ : ∃ n, n = L.length := ⟨_, rfl⟩
  have HN := hidK hnn
  have HV := hidK h
  subst q1
  rw [← hnn] at hn ⊢ HV
  clear h hnn
  go_enter Try.func62, Try.ntmps62
  go_wp2
  go_loopw [5, 6] (fun o i wx => ∃ k : Nat, i = .int .i64 k ∧ k ≤ n ∧ OwnF (fun b => w.heap.size ≤ b) txL 1 9 wx o (woN (L.take k) x) ∧ Below w.heap.size w wx) (fun _ i _ => n - (intOf i).toNat)
  case atStart => exact ⟨0, rfl, Nat.zero_le _, OwnF.nil, Below.refl _ _⟩
  case round =>
    obtain ⟨k, rfl, hkn, ho, hB⟩ := hrel
    have HO := hidK ho
    have HB0 := hidK hB
    clear ho
    by_cases hk : k < n
    · have kI : (k : Int) < (n : Int) := by omega
      have k0 : (0 : Int) ≤ (k : Int) := by omega
      have kw : IntKind.i64.wrap ((k : Int) + 1) = (k : Int) + 1 := by rw [IntKind.wrap_i64]; omega
      have hkl : k < L.length := by have := HN.out; omega
      obtain ⟨y, hy⟩ : ∃ x, L[k]? = some x := ⟨_, List.getElem?_eq_getElem hkl⟩
      obtain ⟨b1, o1, p1, e1, d0⟩ := (HV.out.on hB).tx hy
      have HY := hidK (woN_take (x := x) hy)
      have HKL : Hid ((woN (L.take k) x).length ≤ k) := Nat.le_trans (by unfold woN; exact List.length_filter_le _ _) (Nat.le_of_eq (lenTake (Nat.le_of_lt hkl)))
      injection e1 with e1 e1b e1c
      subst e1
      clear hy hkl e1b e1c HV hB
      by_cases hxy : y = x
      · subst hxy
        go_wp2
        go_roundw
        case rel => exact ⟨k + 1, by go_num, by omega, by rw [HY.out, if_pos rfl]; exact HO.out, HB0.out⟩
        case measure => simp [intOf]; omega
      · have hne := strNe18 hxy
        have HNE := hidK hxy
        clear hxy
        go_wp2_with (refine wpG_one elT rfl (.tmp 19) (.tmp 24) rfl _ (woN (L.take k) x) y #[.string y] rfl rfl rfl HO.out (txL_one y) (by have := HKL.out; omega) (fun b hb => Nat.le_trans HB0.out.size hb) ?_; intro v4 w4 o4 k4 l4; have HO4 := hidK o4; have HK4 := hidK k4; clear o4 k4 l4)
        go_roundw
        case rel => exact ⟨k + 1, by go_num, by omega, by rw [HY.out, if_neg HNE.out]; exact HO4.out, HB0.out.trans (HK4.out.below (fun b hb => HO.out.2 b hb) HB0.out.size)⟩
        case measure => simp [intOf]; omega
    · obtain rfl : k = n := by omega
      clear HV
      have HO2 : Hid (OwnF (fun b => w.heap.size ≤ b) txL 1 9 wr u5 (woN L x)) := by have := HO.out; rw [HN.out, List.take_length] at this; exact this
      go_wp2
      go_ret
      obtain ⟨a, c, e, _⟩ := HO2.out.form
      exact ⟨a, _, c, by rw [← e]; rfl, by rw [← e]; exact HO2.out, HB0.out⟩
set_option maxHeartbeats 1000000 in
theorem relement_c (F : Nat → Prop) (v : Value) (LL : List (List ByteArray)) (k : Nat) (w : World) (h : RowLL F w v LL) :
    Calls Try.prog 61 #[v, .int .i64 k] w fun e w' => ∃ u, e = .returned u ∧ RowN F txL w u (LL.getD k []) ∧ w' = w := by
  obtain ⟨vs, h1, h2, h3⟩ := h
  obtain ⟨ao, cap, q1, _, _⟩ := h1.row.form
  obtain ⟨n, hn⟩ : ∃ n, n = vs.length := ⟨_, rfl⟩
  have h0 := h1
  rw [← hn] at q1
  subst q1
  by_cases hk : k < n
  · obtain ⟨u, hu⟩ : ∃ u, vs[k]? = some u := ⟨_, List.getElem?_eq_getElem (by omega)⟩
    obtain ⟨l, hl⟩ : ∃ l, LL[k]? = some l := ⟨_, List.getElem?_eq_getElem (by omega)⟩
    obtain ⟨b1, o1, p1, e1, d0⟩ := h1.row.va hu
    injection e1 with e1 e1b e1c
    subst e1
    have HR : Hid (RowN F txL w u (LL.getD k [])) := by
      have := h3 k u l hu hl
      rwa [List.getD_eq_getElem?_getD, hl]
    have kI : (k : Int) < (n : Int) := by omega
    have k0 : (0 : Int) ≤ (k : Int) := by omega
    clear h1 h2 h3 h0 hu hl e1b e1c hn
    go_enter Try.func61, Try.ntmps61
    go_wp2
    go_ret
    exact ⟨_, rfl, HR.out, rfl⟩
  · have HR : Hid (RowN F txL w (.slice none 0 0) (LL.getD k [])) := by
      have : LL.getD k [] = [] := by rw [List.getD_eq_getElem?_getD, List.getElem?_eq_none (by omega)]; rfl
      rw [this]
      exact RowN.nil
    have kI : (n : Int) ≤ (k : Int) := by omega
    clear h1 h2 h3 h0 hn
    go_enter Try.func61, Try.ntmps61
    go_wp2
    go_ret
    exact ⟨_, rfl, HR.out, rfl⟩
end Go.Proofs.Ytebgannhecmnmaa
