import Derived.Test.YtnfplepaejjmfaaGreatDoorR4a
import Derived.Laws.StructEq
import Derived.Laws.Tables
import Derived.Laws.Cover2
import Derived.BigQuiet
import Derived.Deep.QuietTactic
import Derived.Test.YtnfplepaejjmfaaGreatDoorM9
import Derived.Test.YtnfplepaejjmfaaGreatDoorM6

-- arc: two lists that are the same.
namespace Go.Proofs.YtnfplepaejjmfaaGreatDoor
open Go.ChangeShapes Go.WideShapes Go.ChangeAt Go.RowKit Go.Shelf
set_option linter.unusedVariables false
set_option maxRecDepth 100000

/-- a list in memory, cell by cell -/
def RowZ (w : World) (v : Value) (n : Nat) (xs : List Value) : Prop := ∃ ao cap, v = .slice ao n cap ∧ (0 < n → ∃ g, ao = some ⟨g, 0, none⟩ ∧ ∀ j u, xs[j]? = some u → w.cell? ⟨g, j, none⟩ = some u)
theorem RowZ.of_own {w : World} {B : Nat} {e : TypeId} {size n : Nat} {v : Value} {xs : List Value} (h : w.ownsRow B e size v n xs) : RowZ w v n xs := by
  rcases h.2 with ⟨rfl, rfl⟩ | ⟨g, cap, cur, rfl, q⟩
  · exact ⟨none, 0, rfl, fun h => absurd h (Nat.lt_irrefl _)⟩
  · refine ⟨some ⟨g, 0, none⟩, cap, rfl, fun _ => ⟨g, rfl, fun j u hu => ?_⟩⟩
    have := h.cells (g := g) rfl j u hu
    rw [Addr.add_mid, Nat.zero_add] at this
    exact this
theorem RowZ.on {w w' : World} {v : Value} {n : Nat} {xs : List Value} (h : RowZ w v n xs) (hb : Below w.heap.size w w') : RowZ w' v n xs := by
  obtain ⟨ao, cap, rfl, q⟩ := h
  refine ⟨ao, cap, rfl, fun h0 => ?_⟩
  obtain ⟨g, rfl, hc⟩ := q h0
  exact ⟨g, rfl, fun j u hu => (hb.cell (p := ⟨g, j, none⟩) (block_lt_of_cell (hc j u hu))).trans (hc j u hu)⟩
theorem hidT {p : Prop} (h : p) : Hid p := h
theorem atsV_get (l : List Int) (k : Nat) (h : k < l.length) : (atsV l)[k]? = some (.int .i64 (l.getD k 0)) := by
  unfold atsV
  simp [List.getElem?_map, List.getD, List.getElem?_eq_getElem h]
theorem mbsV_get (l : List Mb) : ∀ (k m : Nat), k < l.length → m < 7 → (mbsV l)[k * 7 + m]? = (l[k]?.bind fun x => (mbCells x)[m]?) := by
  induction l with
  | nil => intro k m h; simp at h
  | cons x r ih =>
    intro k m h hm
    have hx : (mbCells x).length = 7 := rfl
    have e : mbsV (x :: r) = mbCells x ++ mbsV r := rfl
    rw [e]
    cases k with
    | zero =>
      rw [List.getElem?_append_left (by omega)]
      simp
    | succ k =>
      rw [List.getElem?_append_right (by omega)]
      have := ih k m (by simpa using h) hm
      rw [show (k + 1) * 7 + m - (mbCells x).length = k * 7 + m by rw [hx]; omega, this]
      simp
theorem eqMetaA (a b c d : Int) (w : World) : (Op.equalIn 9999 52 (.agg #[.int .i64 a, .int .i64 b, .int .i64 c, .int .i64 d]) (.agg #[.int .i64 a, .int .i64 b, .int .i64 c, .int .i64 d])).run Tryz.prog w = .ok true w := by
  have u3 := Tryz.underlying3
  have a3 := Tryz.isAgg3
  have z3 := Tryz.sizeOf3
  have hS : Tryz.prog.underlying 52 = some (.struct (Tryz.prog.fieldsOf 52)) := by kernel_rfl
  rw [show (9999 : Nat) = 9998 + 1 from rfl, run_equalIn_agg w 9998 52 _ _ hS (by kernel_rfl)]
  simp only [Program.fieldsOf, Tryz.underlying52]
  go_simp
theorem eqMb (a b c d : Int) (n : ByteArray) (s : Int) (dt : ByteArray) (w : World) : (Op.equalIn 10000 54 (.agg #[.int .i64 a, .int .i64 b, .int .i64 c, .int .i64 d, .string n, .int .i64 s, .string dt]) (.agg #[.int .i64 a, .int .i64 b, .int .i64 c, .int .i64 d, .string n, .int .i64 s, .string dt])).run Tryz.prog w = .ok true w := by
  have u3 := Tryz.underlying3
  have a3 := Tryz.isAgg3
  have z3 := Tryz.sizeOf3
  have u9 := Tryz.underlying9
  have a9 := Tryz.isAgg9
  have z9 := Tryz.sizeOf9
  have uM := Tryz.underlying52
  have aM := Tryz.isAgg52
  have zM := Tryz.sizeOf52
  have hM := eqMetaA a b c d
  have hS : Tryz.prog.underlying 54 = some (.struct (Tryz.prog.fieldsOf 54)) := by kernel_rfl
  rw [show (10000 : Nat) = 9999 + 1 from rfl, run_equalIn_agg w 9999 54 _ _ hS (by kernel_rfl)]
  simp only [Program.fieldsOf, Tryz.underlying54]
  go_simp
set_option maxHeartbeats 2000000 in
theorem places_eq (v1 v2 : Value) (l : List Int) (w : World) (h1 : RowZ w v1 l.length (atsV l)) (h2 : RowZ w v2 l.length (atsV l)) (hn : l.length < 4294967296) :
    Calls Tryz.prog 11 #[v1, v2] w fun e w' => e = .returned (.bool true) ∧ ∃ m, w' = w.drewN m := by
  obtain ⟨a1, c1, rfl, q1⟩ := h1
  obtain ⟨a2, c2, rfl, q2⟩ := h2
  obtain ⟨n, hnn⟩ : ∃ n, n = l.length := ⟨_, rfl⟩
  have HN := hidT hnn
  have HQ1 := hidT q1
  have HQ2 := hidT q2
  rw [← hnn] at hn ⊢
  clear q1 q2 hnn
  go_enter Tryz.func11, Tryz.ntmps11
  go_wp2
  go_loopw [5] (fun i wx => ∃ k : Nat, i = .int .i64 k ∧ k ≤ n ∧ ∃ m, wx = w.drewN m) (fun i _ => n - (intOf i).toNat)
  case atStart => exact ⟨0, rfl, Nat.zero_le _, 0, rfl⟩
  case round =>
    obtain ⟨k, rfl, hkn, m, rfl⟩ := hrel
    by_cases hk : k < n
    · have kI : (k : Int) < (n : Int) := by omega
      have k0 : (0 : Int) ≤ (k : Int) := by omega
      obtain ⟨g1, rfl, r1⟩ := HQ1.out (by have := HN.out; omega)
      obtain ⟨g2, rfl, r2⟩ := HQ2.out (by have := HN.out; omega)
      obtain ⟨x, hx⟩ : ∃ x, x = l.getD k 0 := ⟨_, rfl⟩
      have d1 : w.cell? ⟨g1, k, none⟩ = some (.int .i64 x) := by rw [hx]; exact r1 k _ (atsV_get l k (by have := HN.out; omega))
      have d2 : w.cell? ⟨g2, k, none⟩ = some (.int .i64 x) := by rw [hx]; exact r2 k _ (atsV_get l k (by have := HN.out; omega))
      clear hx r1 r2 HQ1 HQ2
      go_wp2_with fail
      go_quiet (fail)
      go_wp2
      go_roundw
      case rel => exact ⟨k + 1, by go_num, by omega, m + nq, rfl⟩
      case measure => simp [intOf]; omega
    · obtain rfl : k = n := by omega
      clear HQ1 HQ2
      go_wp2
      go_ret
      exact ⟨rfl, m, rfl⟩
set_option maxHeartbeats 4000000 in
theorem members_eq (v1 v2 : Value) (l : List Mb) (w : World) (h1 : RowZ w v1 l.length (mbsV l)) (h2 : RowZ w v2 l.length (mbsV l)) (hn : l.length < 4294967296) :
    Calls Tryz.prog 12 #[v1, v2] w fun e w' => e = .returned (.bool true) ∧ ∃ m, w' = w.drewN m := by
  obtain ⟨a1, c1, rfl, q1⟩ := h1
  obtain ⟨a2, c2, rfl, q2⟩ := h2
  obtain ⟨n, hnn⟩ : ∃ n, n = l.length := ⟨_, rfl⟩
  have HN := hidT hnn
  have HQ1 := hidT q1
  have HQ2 := hidT q2
  rw [← hnn] at hn ⊢
  clear q1 q2 hnn
  go_enter Tryz.func12, Tryz.ntmps12
  go_wp2
  go_loopw [5] (fun i wx => ∃ k : Nat, i = .int .i64 k ∧ k ≤ n ∧ ∃ m, wx = w.drewN m) (fun i _ => n - (intOf i).toNat)
  case atStart => exact ⟨0, rfl, Nat.zero_le _, 0, rfl⟩
  case round =>
    obtain ⟨k, rfl, hkn, m, rfl⟩ := hrel
    by_cases hk : k < n
    · have kI : (k : Int) < (n : Int) := by omega
      have k0 : (0 : Int) ≤ (k : Int) := by omega
      obtain ⟨g1, rfl, r1⟩ := HQ1.out (by have := HN.out; omega)
      obtain ⟨g2, rfl, r2⟩ := HQ2.out (by have := HN.out; omega)
      have hkl : k < l.length := by have := HN.out; omega
      obtain ⟨⟨⟨dd, uu, gg, mm, nn, zz⟩, dt⟩, hx⟩ : ∃ x, l[k]? = some x := ⟨_, List.getElem?_eq_getElem hkl⟩
      have R : ∀ j u, j < 7 → (mbCells ⟨⟨dd, uu, gg, mm, nn, zz⟩, dt⟩)[j]? = some u → (mbsV l)[k * 7 + j]? = some u := fun j u hj hu => by
        rw [mbsV_get l k j hkl hj, hx]; exact hu
      have d0 := r1 _ _ (R 0 _ (by decide) rfl)
      have d1 := r1 _ _ (R 1 _ (by decide) rfl)
      have d2 := r1 _ _ (R 2 _ (by decide) rfl)
      have d3 := r1 _ _ (R 3 _ (by decide) rfl)
      have d4 := r1 _ _ (R 4 _ (by decide) rfl)
      have d5 := r1 _ _ (R 5 _ (by decide) rfl)
      have d6 := r1 _ _ (R 6 _ (by decide) rfl)
      have e0 := r2 _ _ (R 0 _ (by decide) rfl)
      have e1 := r2 _ _ (R 1 _ (by decide) rfl)
      have e2 := r2 _ _ (R 2 _ (by decide) rfl)
      have e3 := r2 _ _ (R 3 _ (by decide) rfl)
      have e4 := r2 _ _ (R 4 _ (by decide) rfl)
      have e5 := r2 _ _ (R 5 _ (by decide) rfl)
      have e6 := r2 _ _ (R 6 _ (by decide) rfl)
      rw [Nat.add_zero] at d0 e0
      have hE := eqMb dd uu gg mm nn zz dt
      clear hx r1 r2 R HQ1 HQ2 hkl
      go_wp2_with fail
      go_quiet (fail)
      go_wp2
      go_roundw
      case rel => exact ⟨k + 1, by go_num, by omega, m + nq, rfl⟩
      case measure => simp [intOf]; omega
    · obtain rfl : k = n := by omega
      clear HQ1 HQ2
      go_wp2
      go_ret
      exact ⟨rfl, m, rfl⟩
end Go.Proofs.YtnfplepaejjmfaaGreatDoor

-- arc: two archives that are the same.
namespace Go.Proofs.YtnfplepaejjmfaaGreatDoor
open Go.ChangeShapes Go.WideShapes Go.ChangeAt Go.RowKit Go.Shelf
set_option linter.unusedVariables false
set_option maxRecDepth 100000
theorem below_drewT {n : Nat} {a b : World} (h : Below n a b) (k : Nat) : Below n a (b.drewN k) := by
  induction k with
  | zero => exact h
  | succ k ih => exact ih.drew
set_option maxHeartbeats 2000000 in
theorem same_w (kd fm sp : Int) (ix : ByteArray) (v1 a1 v2 a2 : Value) (w : World)
    (HM : Hid (∀ wx, Below w.heap.size w wx → Calls Tryz.prog 12 #[v1, v2] wx fun e w' => e = .returned (.bool true) ∧ ∃ m, w' = wx.drewN m))
    (HP : Hid (∀ wx, Below w.heap.size w wx → Calls Tryz.prog 11 #[a1, a2] wx fun e w' => e = .returned (.bool true) ∧ ∃ m, w' = wx.drewN m)) :
    Calls Tryz.prog 18 #[.agg #[.int .i64 kd, .int .i64 fm, .string ix, .int .i64 sp, v1, a1], .agg #[.int .i64 kd, .int .i64 fm, .string ix, .int .i64 sp, v2, a2]] w fun e w' => e = .returned (.bool true) ∧ Below w.heap.size w w' := by
  have hB0 : Below w.heap.size w ((w.alloc (.cells #[.int .i64 kd, .int .i64 fm, .string ix, .int .i64 sp, v1, a1] 43)).alloc (.cells #[.int .i64 kd, .int .i64 fm, .string ix, .int .i64 sp, v2, a2] 43)) := bup (bup (Below.refl _ _) _) _
  go_enter Tryz.func18, Tryz.ntmps18
  go_wp2_with first
    | (go_at_call 12; refine (HM.out _ hB0).mono ?_; rintro e w1 ⟨rfl, m1, hw1⟩; subst w1; have hB1 := below_drewT hB0 m1)
    | (go_at_call 11; refine (HP.out _ hB1).mono ?_; rintro e w1 ⟨rfl, m2, hw1⟩; subst w1; have hB2 := below_drewT hB1 m2)
  go_ret
  exact ⟨rfl, below_drewT hB0 _⟩
theorem same_eq (p : Ar) (v1 a1 v2 a2 : Value) (w : World) (h1 : RowZ w v1 p.mem.length (mbsV p.mem)) (h2 : RowZ w v2 p.mem.length (mbsV p.mem)) (k1 : RowZ w a1 p.ats.length (atsV p.ats)) (k2 : RowZ w a2 p.ats.length (atsV p.ats)) (hn : p.mem.length < 4294967296) (hm : p.ats.length < 4294967296) :
    Calls Tryz.prog 18 #[.agg (parRow p v1 a1), .agg (parRow p v2 a2)] w fun e w' => e = .returned (.bool true) ∧ Below w.heap.size w w' :=
  same_w p.kind p.form p.stamp p.index v1 a1 v2 a2 w (fun wx hb => members_eq v1 v2 p.mem wx (h1.on hb) (h2.on hb) hn) (fun wx hb => places_eq a1 a2 p.ats wx (k1.on hb) (k2.on hb) hm)
theorem Ans.len {b : ByteArray} {p : Ar} {pl er : Int} (h : Ans b p pl er) : p.mem.length ≤ b.size ∧ p.ats.length ≤ b.size := by
  rcases h with ⟨_, rfl, _⟩ | ⟨hm, n, hF, ⟨_, rfl, _⟩ | ⟨_, rfl, _⟩⟩
  · exact ⟨Nat.zero_le _, Nat.zero_le _⟩
  · have h1 := arK_len b n
    have h2 := st_pos b (magic8 b hm) n hF.all
    omega
  · exact ⟨Nat.zero_le _, Nat.zero_le _⟩
theorem addC_ok : AddC := add_c
/-- Parse, whole -/
theorem parse9_c (b : ByteArray) (w : World) (hC : Cols w) (hM : MaxLenAt w) (hb : b.size < 4294967281) : Calls Tryz.prog 15 #[.string b] w fun e w' => RpPost b w e w' := by
  refine (parseA_c look_c addC_ok b w hC hM hb).mono ?_
  rintro e w' ⟨vm, va, p, pl, er, h⟩
  exact ⟨vm, va, p, pl, er, h⟩
end Go.Proofs.YtnfplepaejjmfaaGreatDoor

-- ArcParse's walk.
namespace Go.Proofs.YtnfplepaejjmfaaGreatDoor
open Go.ChangeShapes Go.WideShapes Go.ChangeAt Go.RowKit Go.Shelf
set_option linter.unusedVariables false
set_option maxRecDepth 100000
theorem own_slice {w : World} {B : Nat} {e : TypeId} {size n : Nat} {v : Value} {xs : List Value} (h : w.ownsRow B e size v n xs) : ∃ ao n c, v = .slice ao n c := by
  rcases h.2 with ⟨rfl, _⟩ | ⟨g, cap, cur, rfl, _⟩
  · exact ⟨_, _, _, rfl⟩
  · exact ⟨_, _, _, rfl⟩
theorem rows_on {w w' : World} {n : Nat} {p : Ar} {vm va : Value} (h : PRows n w p vm va) (hb : Below w.heap.size w w') : PRows n w' p vm va := ⟨own_on h.mem hb, own_on h.ats hb⟩
theorem arcParse_w (a0 : ByteArray) (l0 : a0.size ≤ 1048576) (w : World) (hC : Cols w) (hX : MaxLenAt w) :
    Calls Tryz.prog 5 #[.string a0] w fun e w' => e = .returned (.bool true) ∧ Below w.heap.size w w' := by
  have H1 : Hid (Calls Tryz.prog 15 #[.string a0] w fun e w' => RpPost a0 w e w') := parse9_c a0 w hC hX (by omega)
  have H2 : Hid (∀ w, Calls Tryz.prog 16 #[.string a0] w fun e w' => RpPost a0 w e w') := fun w => rparse9_c a0 w (by omega)
  have HL := hidT l0
  clear l0 hX hC
  go_enter Tryz.func5, Tryz.ntmps5
  go_wp2_with (first
    | (go_at_call 15; refine H1.out.mono ?_; rintro e w1 ⟨vm, va, p, pl, er, rfl, hR1, hb1, hA1⟩; obtain ⟨o1, n1, c1, rfl⟩ := own_slice hR1.mem; obtain ⟨o2, n2, c2, rfl⟩ := own_slice hR1.ats; have HA1 := hidT hA1; have HR1 := hidT (rows_on hR1 (bup (Below.refl _ _) (.cells (parRow p (.slice o1 n1 c1) (.slice o2 n2 c2)) 43))); have hbA := bup hb1 (.cells (parRow p (.slice o1 n1 c1) (.slice o2 n2 c2)) 43); unfold parRow at hbA; have jb := heap_alloc_new w1 (.cells (parRow p (.slice o1 n1 c1) (.slice o2 n2 c2)) 43); unfold parRow at jb; clear hA1 hR1; unfold parRow)
    | (go_at_call 16; refine (H2.out _).mono ?_; rintro e w2 ⟨vm', va', p', pl', er', rfl, hR2, hb2, hA2⟩; obtain ⟨o3, n3, c3, rfl⟩ := own_slice hR2.mem; obtain ⟨o4, n4, c4, rfl⟩ := own_slice hR2.ats; obtain ⟨rfl, rfl, rfl⟩ := HA1.out.unique hA2; have HLN := hidT hA2.len; have HR2 := hidT (rows_on hR2 (bup (Below.refl _ _) (.cells (parRow p (.slice o3 n3 c3) (.slice o4 n4 c4)) 43))); have HR3 := hidT (rows_on (rows_on HR1.out hb2) (bup (Below.refl _ _) (.cells (parRow p (.slice o3 n3 c3) (.slice o4 n4 c4)) 43))); have hbB := bup (hbA.trans (hb2.mono hbA.size)) (.cells (parRow p (.slice o3 n3 c3) (.slice o4 n4 c4)) 43); unfold parRow at hbB; have hlt : w1.heap.size < w2.heap.size := (Array.getElem?_eq_some_iff.1 (hkeep hb2 jb)).1; obtain ⟨t0, t1, t2, t3, t4, t5⟩ := cells6 (hkeep hb2 jb); clear hA2 hR2; unfold parRow)
    | (go_at_call 18; refine (same_eq p (.slice o1 n1 c1) (.slice o2 n2 c2) (.slice o3 n3 c3) (.slice o4 n4 c4) _ (.of_own HR3.out.mem) (.of_own HR2.out.mem) (.of_own HR3.out.ats) (.of_own HR2.out.ats) (by have := HLN.out; have := HL.out; omega) (by have := HLN.out; have := HL.out; omega)).mono ?_; rintro e w3 ⟨rfl, hb3⟩)
    | go_in)
  all_goals
    go_ret
    exact ⟨by simp, hbB.trans (hb3.mono hbB.size)⟩
end Go.Proofs.YtnfplepaejjmfaaGreatDoor
