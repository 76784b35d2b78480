
-- setOf of places, numbersByPlace, Clone.
import Derived.Test.YtnnpdomfkedhpaaAP
import Derived.Lib.SliceRun
namespace Go.Proofs.Ytnnpdomfkedhpaa
open Go.ChangeShapes Go.WideShapes Go.ChangeAt Go.RowKit Go.MapKept
set_option linter.unusedVariables false
set_option maxRecDepth 100000
theorem elT : El txL 1 9 23 16 := ⟨Try.underlying23, ⟨.string ⟨#[]⟩, by kernel_rfl, rfl⟩, txL_len, by decide⟩
theorem elP : El paL 2 56 30 16 := ⟨Try.underlying30, ⟨.agg #[.int .i64 0, .int .i64 0], by kernel_rfl, rfl⟩, paL_len, by decide⟩
theorem elI : El nmL 1 3 41 8 := ⟨Try.underlying41, ⟨.int .i64 0, by kernel_rfl, rfl⟩, nmL_len, by decide⟩
set_option maxHeartbeats 2000000 in
theorem setOfP_c (v : Value) (L : List (Int × Int)) (w : World) (h : RowP w v L) (hn : L.length < 4611686018427387904) :
    Calls Try.prog 19 #[v] w fun e w' => ∃ b, e = .returned (.map (some b)) ∧ b = w.heap.size ∧ SetP w' b (setF L) ∧ Below w.heap.size w w' := by
  obtain ⟨a1, c1, q1, _, _⟩ := h.form
  obtain ⟨n, hnn⟩ : ∃ n, n = L.length := ⟨_, rfl⟩
  have HN := hidK hnn
  have HV := hidK h
  subst q1
  rw [← hnn] at hn ⊢ HV
  clear h hnn
  have HM : Hid (SetP (w.alloc (.map #[] 0)) w.heap.size (setF ([] : List (Int × Int)))) := (MpAt.made IsPl plV w).congr (fun x => rfl)
  go_enter Try.func19, Try.ntmps19
  go_wp2_with (refine wp_make _ rfl _ 63 56 77 rfl _ rfl mapP_u ?_)
  go_loopw [11] (fun i wx => ∃ k : Nat, i = .int .i64 k ∧ k ≤ n ∧ SetP wx w.heap.size (setF (L.take k)) ∧ Below w.heap.size w wx) (fun i _ => n - (intOf i).toNat)
  case atStart => exact ⟨0, rfl, Nat.zero_le _, HM.out, (Below.refl _ _).alloc (Nat.le_refl _) _⟩
  case round =>
    obtain ⟨k, rfl, hkn, ho, hB⟩ := hrel
    have HO := hidK ho
    clear ho
    by_cases hk : k < n
    · have kI : (k : Int) < (n : Int) := by omega
      have k0 : (0 : Int) ≤ (k : Int) := by omega
      have hkl : k < L.length := by have := HN.out; omega
      obtain ⟨⟨x, y⟩, hx⟩ : ∃ x, L[k]? = some x := ⟨_, List.getElem?_eq_getElem hkl⟩
      obtain ⟨b1, o1, p1, e1, d0, d1⟩ := (HV.out.on hB).pa hx
      have HX := hidK hx
      injection e1 with e1 e1b e1c
      subst e1
      have HA : Hid (∀ W, Below wr.heap.size wr W → Calls Try.prog 24 #[.map (some w.heap.size), .agg #[.int .i64 x, .int .i64 y]] W fun e w' => e = .returned (.tuple #[]) ∧ SetP w' w.heap.size (setF (L.take k ++ [(x, y)])) ∧ Below w.heap.size w w') := fun W hb => (addP_c w.heap.size (L.take k) x y W (HO.out.on hb)).mono (by
        rintro e w' ⟨rfl, h1, h2⟩
        exact ⟨rfl, h1, below_kp (hB.trans (hb.mono hB.size)) h2 (Nat.le_refl _) (Nat.le_refl _)⟩)
      clear hx hkl e1b e1c HV
      go_wp2_with (go_at_call 24; refine (HA.out _ (bupK (Below.refl _ _) _)).mono ?_; rintro e w1 ⟨rfl, hs1, hk1⟩; have HS := hidK hs1; have HB1 := hidK hk1; clear hs1 hk1)
      go_roundw
      case rel => exact ⟨k + 1, by go_num, by omega, by rw [takeSucc HX.out]; exact HS.out, HB1.out⟩
      case measure => simp [intOf]; omega
    · obtain rfl : k = n := by omega
      clear HV
      go_wp2
      go_ret
      refine ⟨_, rfl, rfl, ?_, hB⟩
      have := HO.out
      rw [HN.out, List.take_length] at this
      exact this
/-- the first place of a number in a list -/
def idx (A : List Int) (x : Int) : Option Nat := A.findIdx? (fun y => decide (y = x))
def plcF (A : List Int) (k : Nat) : Int → Option Value := fun x => (idx (A.drop k) x).map fun i => .int .i64 ((i + k : Nat) : Int)
theorem plcF_step {A : List Int} {k : Nat} {y : Int} (h : A[k]? = some y) (x : Int) : (if x = y then some (Value.int .i64 (k : Int)) else plcF A (k + 1) x) = plcF A k x := by
  have hd : A.drop k = y :: A.drop (k + 1) := by
    obtain ⟨hl, he⟩ := List.getElem?_eq_some_iff.1 h
    rw [← List.getElem_cons_drop hl, he]
  unfold plcF idx
  rw [hd, List.findIdx?_cons]
  by_cases hxy : x = y
  · subst hxy; simp
  · have : decide (y = x) = false := by simp; exact fun e => hxy e.symm
    rw [if_neg hxy, this]
    simp only [Bool.false_eq_true, if_false, Option.map_map, Function.comp_def]
    congr 1
    funext i
    congr 1
    omega
theorem plcF_end {A : List Int} {k : Nat} (h : A.length ≤ k) (x : Int) : plcF A k x = none := by
  unfold plcF idx; rw [List.drop_eq_nil_of_le h]; rfl
set_option maxHeartbeats 2000000 in
theorem numbers_c (v : Value) (L : List Int) (w : World) (h : RowI w v L) (hn : L.length < 4611686018427387904) :
    Calls Try.prog 25 #[v] w fun e w' => ∃ b, e = .returned (.map (some b)) ∧ b = w.heap.size ∧ MpN w' b (plcF L 0) ∧ Below w.heap.size w w' := by
  obtain ⟨a1, c1, q1, _, _⟩ := h.form
  obtain ⟨n, hnn⟩ : ∃ n, n = L.length := ⟨_, rfl⟩
  have HN := hidK hnn
  have HV := hidK h
  subst q1
  rw [← hnn] at hn ⊢ HV
  clear h
  have HM : Hid (MpN (w.alloc (.map #[] 0)) w.heap.size (plcF L n)) := (MpAt.made IsNm (Value.int .i64) w).congr (fun x => (plcF_end (by omega) x).symm)
  have hw1 : IntKind.i64.wrap ((n : Int) - 1) = (n : Int) - 1 := by rw [IntKind.wrap_i64]; omega
  clear hnn
  go_enter Try.func25, Try.ntmps25
  go_wp2_with (refine wp_make _ rfl _ 67 3 3 rfl _ rfl mapN_u ?_)
  go_loopw [4] (fun i wx => ∃ k : Nat, i = .int .i64 ((k : Int) - 1) ∧ k ≤ n ∧ MpN wx w.heap.size (plcF L k) ∧ Below w.heap.size w wx) (fun i _ => (intOf i + 1).toNat)
  case atStart => exact ⟨n, rfl, Nat.le_refl _, HM.out, (Below.refl _ _).alloc (Nat.le_refl _) _⟩
  case round =>
    obtain ⟨k, rfl, hkn, ho, hB⟩ := hrel
    have HO := hidK ho
    clear ho
    cases k with
    | succ k =>
      have kI : ((k + 1 : Nat) : Int) - 1 = (k : Int) := by omega
      rw [kI]
      have k0 : (0 : Int) ≤ (k : Int) := by omega
      have kn : (k : Int) < (n : Int) := by omega
      have hkl : k < L.length := by have := HN.out; omega
      obtain ⟨x, hx⟩ : ∃ x, L[k]? = some x := ⟨_, List.getElem?_eq_getElem hkl⟩
      obtain ⟨b1, o1, p1, e1, d0⟩ := (HV.out.on hB).nm hx
      injection e1 with e1 e1b e1c
      subst e1
      obtain ⟨w3, hr3, h3, ht3⟩ := MpAt.store HO.out mapN_u keyNm isNm injNm x (.int .i64 k)
      have HS : Hid (MpN w3 w.heap.size (plcF L k) ∧ Below w.heap.size w w3) := ⟨h3.congr (plcF_step hx), below_kp hB (ht3.kp rfl) (Nat.le_refl _) (Nat.le_refl _)⟩
      have hw2 : IntKind.i64.wrap ((k : Int) - 1) = (k : Int) - 1 := by rw [IntKind.wrap_i64]; omega
      clear hx hkl e1b e1c HV h3 ht3 kI
      go_wp2_with (at_mapUpdate; refine wp_store _ rfl _ _ _ 67 rfl _ _ _ rfl rfl rfl w3 hr3 ?_)
      go_roundw
      case rel => exact ⟨k, rfl, by omega, HS.out.1, HS.out.2⟩
      case measure => simp [intOf]
    | zero =>
      clear HV
      go_wp2
      go_ret
      exact ⟨_, rfl, rfl, HO.out, hB⟩
set_option maxHeartbeats 2000000 in
theorem cloneS_c (v : Value) (L : List ByteArray) (w : World) (h : RowT w v L) (hn : L.length ≤ 4398046511104) :
    Calls Try.prog 16 #[v] w fun e w' => ∃ u, e = .returned u ∧ OwnF (fun b => w.heap.size ≤ b) txL 1 9 w' u L ∧ Below w.heap.size w w' := by
  have h0 := h
  obtain ⟨ao, cap, rfl, h1, h2, h3, h4⟩ := h
  cases ao with
  | none =>
    have hc := h3 rfl
    subst hc
    have hL : L = [] := List.eq_nil_of_length_eq_zero (by omega)
    subst hL
    have hq := fun W => Lib.run_eql_slice_nil (P := Try.prog) W 23 9 none 0 0 0 0 Try.underlying23
    clear h0 h4
    go_enter Try.func16, Try.ntmps16
    go_wp2
    go_ret
    exact ⟨_, rfl, OwnF.nil, Below.refl _ _⟩
  | some ad =>
    have HR : Hid (RowT (w.alloc (.cells #[] 9)) (.slice (some ad) L.length cap) L) := h0.on ((Below.refl _ _).alloc (Nat.le_refl _) _)
    have HO : Hid (OwnF (fun b => w.heap.size ≤ b) txL 1 9 (w.alloc (.cells #[] 9)) (.slice (some ⟨w.heap.size, 0, none⟩) 0 0) []) := ⟨⟨rfl, .inr ⟨w.heap.size, 0, #[], rfl, Nat.zero_le _, heap_alloc_new _ _, Nat.le_refl _, by decide, rfl, rfl⟩⟩, by intro g hg; simp [Value.ownBlock] at hg; omega⟩
    have hq := fun W => Lib.run_eql_slice_nil (P := Try.prog) W 23 9 (some ad) L.length cap 0 0 Try.underlying23
    clear h0 h4 h3
    go_enter Try.func16, Try.ntmps16
    go_wp2_with (refine wpG_all elT rfl (.tmp 5) (.tmp 6) rfl _ _ [] L rfl rfl HO.out HR.out (fun m _ => txL_one m) (by simp; omega) (fun b hb => by rw [World.size_alloc] at hb; omega) ?_; intro v1 w1 o1 k1 _; have HO1 := hidK o1; have HK1 := hidK k1; clear o1 k1)
    go_ret
    refine ⟨_, rfl, by simpa using HO1.out, ?_⟩
    have := HK1.out.below (B := w.heap.size) (fun k hk => by
      have hk' : (Value.slice (some ⟨w.heap.size, 0, none⟩) 0 0).ownBlock = some k := hk
      simp [Value.ownBlock] at hk'; omega) (by rw [World.size_alloc]; omega)
    exact ((Below.refl w.heap.size w).alloc (Nat.le_refl _) _).trans this
set_option maxHeartbeats 2000000 in
theorem cloneP_c (v : Value) (L : List (Int × Int)) (w : World) (h : RowP w v L) (hn : L.length ≤ 4398046511104) :
    Calls Try.prog 17 #[v] w fun e w' => ∃ u, e = .returned u ∧ OwnF (fun b => w.heap.size ≤ b) paL 2 56 w' u L ∧ Below w.heap.size w w' := by
  have h0 := h
  obtain ⟨ao, cap, rfl, h1, h2, h3, h4⟩ := h
  cases ao with
  | none =>
    have hc := h3 rfl
    subst hc
    have hL : L = [] := List.eq_nil_of_length_eq_zero (by omega)
    subst hL
    have hq := fun W => Lib.run_eql_slice_nil (P := Try.prog) W 30 56 none 0 0 0 0 Try.underlying30
    clear h0 h4
    go_enter Try.func17, Try.ntmps17
    go_wp2
    go_ret
    exact ⟨_, rfl, OwnF.nil, Below.refl _ _⟩
  | some ad =>
    have HR : Hid (RowP (w.alloc (.cells #[] 56)) (.slice (some ad) L.length cap) L) := h0.on ((Below.refl _ _).alloc (Nat.le_refl _) _)
    have HO : Hid (OwnF (fun b => w.heap.size ≤ b) paL 2 56 (w.alloc (.cells #[] 56)) (.slice (some ⟨w.heap.size, 0, none⟩) 0 0) []) := ⟨⟨rfl, .inr ⟨w.heap.size, 0, #[], rfl, Nat.zero_le _, heap_alloc_new _ _, Nat.le_refl _, by decide, rfl, rfl⟩⟩, by intro g hg; simp [Value.ownBlock] at hg; omega⟩
    have hq := fun W => Lib.run_eql_slice_nil (P := Try.prog) W 30 56 (some ad) L.length cap 0 0 Try.underlying30
    clear h0 h4 h3
    go_enter Try.func17, Try.ntmps17
    go_wp2_with (refine wpG_all elP rfl (.tmp 5) (.tmp 6) rfl _ _ [] L rfl rfl HO.out HR.out (fun m _ => paL_one m) (by simp; omega) (fun b hb => by rw [World.size_alloc] at hb; omega) ?_; intro v1 w1 o1 k1 _; have HO1 := hidK o1; have HK1 := hidK k1; clear o1 k1)
    go_ret
    refine ⟨_, rfl, by simpa using HO1.out, ?_⟩
    have := HK1.out.below (B := w.heap.size) (fun k hk => by
      have hk' : (Value.slice (some ⟨w.heap.size, 0, none⟩) 0 0).ownBlock = some k := hk
      simp [Value.ownBlock] at hk'; omega) (by rw [World.size_alloc]; omega)
    exact ((Below.refl w.heap.size w).alloc (Nat.le_refl _) _).trans this
end Go.Proofs.Ytnnpdomfkedhpaa
