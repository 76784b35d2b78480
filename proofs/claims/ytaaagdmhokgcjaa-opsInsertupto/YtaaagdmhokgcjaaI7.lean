
-- The document's Insert, whole; sameEvents.
import Derived.Test.YtaaagdmhokgcjaaI6
namespace Go.Proofs.Ytaaagdmhokgcjaa
open Go.ChangeShapes Go.WideShapes Go.ChangeAt Go.RowKit
set_option linter.unusedVariables false
set_option maxRecDepth 100000
set_option linter.unusedSimpArgs false
set_option maxHeartbeats 8000000 in
theorem rinsert_none (v v2 : Value) (L M : List Mx) (pw : Int) (pa : ByteArray) (u : Bool) (w : World) (h : RowM w v L) (h2 : RowM w v2 M) (hl : L.length ≤ 16777216) (hsp : spotO L pw pa = none) :
    Calls Try.prog 25 #[v, v2, .agg #[.int .i64 pw, .string pa], .bool u] w fun e w' => e = .returned (.tuple #[.slice none 0 0, .slice none 0 0, .int .i64 131]) ∧ Below w.heap.size w w' := by
  obtain ⟨a1, c1, q1, _, _⟩ := h.form
  obtain ⟨a2, c2, q2, _, _⟩ := h2.form
  have HB0 := hidK (bupK (Below.refl w.heap.size w) (.cells #[.int .i64 pw, .string pa] 39))
  have hcw : (w.alloc (.cells #[.int .i64 pw, .string pa] 39)).cell? ⟨w.heap.size, 0, none⟩ = some (.int .i64 pw) := cell_rowK (heap_alloc_new w _) 0 _ rfl
  have hca : (w.alloc (.cells #[.int .i64 pw, .string pa] 39)).cell? ⟨w.heap.size, 1, none⟩ = some (.string pa) := cell_rowK (heap_alloc_new w _) 1 _ rfl
  have HP := hidK (spot_c v L pw pa (w.alloc (.cells #[.int .i64 pw, .string pa] 39)) (h.on HB0.out) hl)
  rw [hsp] at HP
  simp only [spN] at HP
  subst q1
  subst q2
  clear h h2 hsp
  go_enter Try.func25, Try.ntmps25
  go_wp2_with (go_at_call 35; refine HP.out.mono ?_; rintro e w1 ⟨rfl, hb1⟩)
  go_ret3
  exact ⟨rfl, bel3K HB0.out hb1⟩
theorem rinsert_c (v v2 : Value) (L M : List Mx) (pw : Int) (pa : ByteArray) (u : Bool) (w : World) (h : RowM w v L) (h2 : RowM w v2 M) (hl : L.length ≤ 8388608) (hm : M.length ≤ 8388608) :
    Calls Try.prog 25 #[v, v2, .agg #[.int .i64 pw, .string pa], .bool u] w fun e w' => ∃ x y, e = .returned (.tuple #[x, y, .int .i64 (insC L M pw pa)]) ∧ OwnM w.heap.size w' x (insX L M pw pa u) ∧ OwnE w.heap.size w' y (insY L M pw pa u) ∧ Below w.heap.size w w' := by
  cases hsp : spotO L pw pa with
  | none =>
    refine (rinsert_none v v2 L M pw pa u w h h2 (by omega) hsp).mono ?_
    rintro e w' ⟨rfl, hb⟩
    unfold insX insY insC
    rw [hsp]
    exact ⟨_, _, rfl, ⟨rfl, .inl ⟨rfl, rfl⟩⟩, ⟨rfl, .inl ⟨rfl, rfl⟩⟩, hb⟩
  | some p =>
    refine (rinsert_some v v2 L M pw pa u p w h h2 hl hm hsp).mono ?_
    rintro e w' ⟨x, y, rfl, hx, hy, hb⟩
    unfold insX insY insC
    rw [hsp]
    exact ⟨_, _, rfl, hx, hy, hb⟩
theorem insX_len (L M : List Mx) (pw : Int) (pa : ByteArray) (u : Bool) (hl : L.length ≤ 8388608) (hm : M.length ≤ 8388608) : (insX L M pw pa u).length ≤ 67108864 := by
  unfold insX
  split
  · have := (insL_len L M u M.length).2
    simp only [List.length_append, List.length_take, List.length_drop]
    omega
  · simp
theorem insY_len (L M : List Mx) (pw : Int) (pa : ByteArray) (u : Bool) (hm : M.length ≤ 8388608) : (insY L M pw pa u).length ≤ 67108864 := by
  unfold insY
  split
  · rw [insE_len L M u M.length (Nat.le_refl _)]; omega
  · simp
theorem eqEv (a : Int) (n : ByteArray) (w : World) : (Op.equalIn 10000 46 (.agg #[.int .u8 a, .string n]) (.agg #[.int .u8 a, .string n])).run Try.prog w = .ok true w := by
  have u5 := Try.underlying5
  have a5 := Try.isAgg5
  have z5 := Try.sizeOf5
  have u9 := Try.underlying9
  have a9 := Try.isAgg9
  have z9 := Try.sizeOf9
  have hS : Try.prog.underlying 46 = some (.struct (Try.prog.fieldsOf 46)) := by kernel_rfl
  rw [show (10000 : Nat) = 9999 + 1 from rfl, run_equalIn_agg w 9999 46 _ _ hS (by kernel_rfl)]
  simp only [Program.fieldsOf, Try.underlying46]
  go_simp
set_option maxHeartbeats 4000000 in
theorem sameEvents_c (v1 v2 : Value) (l : List Ev) (w : World) (h1 : RowE w v1 l) (h2 : RowE w v2 l) (hn : l.length ≤ 67108864) :
    Calls Try.prog 26 #[v1, v2] w fun e w' => e = .returned (.bool true) ∧ Below w.heap.size w w' := by
  obtain ⟨a1, c1, q1, _, _⟩ := h1.form
  obtain ⟨a2, c2, q2, _, _⟩ := h2.form
  obtain ⟨n, hnn⟩ : ∃ n, n = l.length := ⟨_, rfl⟩
  have HN := hidK hnn
  have HQ1 := hidK h1
  have HQ2 := hidK h2
  subst q1
  subst q2
  rw [← hnn] at hn ⊢ HQ1 HQ2
  clear h1 h2 hnn
  go_enter Try.func26, Try.ntmps26
  go_wp2
  go_loopw [5] (fun i wx => ∃ k : Nat, i = .int .i64 k ∧ k ≤ n ∧ Below w.heap.size w wx) (fun i _ => n - (intOf i).toNat)
  case atStart => exact ⟨0, rfl, Nat.zero_le _, Below.refl _ _⟩
  case round =>
    obtain ⟨k, rfl, hkn, hB⟩ := hrel
    by_cases hk : k < n
    · have kI : (k : Int) < (n : Int) := by omega
      have k0 : (0 : Int) ≤ (k : Int) := by omega
      have hkl : k < l.length := by have := HN.out; omega
      obtain ⟨⟨aw, nn⟩, hx⟩ : ∃ x, l[k]? = some x := ⟨_, List.getElem?_eq_getElem hkl⟩
      obtain ⟨b1, o1, p1, e1, d0, d1⟩ := (HQ1.out.on hB).ev hx
      obtain ⟨b2, o2, p2, e2, f0, f1⟩ := (HQ2.out.on hB).ev hx
      injection e1 with e1 e1b e1c
      injection e2 with e2 e2b e2c
      subst e1
      subst e2
      have hE := eqEv aw nn
      clear hx HQ1 HQ2 hkl e1b e1c e2b e2c
      go_wp2_with fail
      go_quiet (fail)
      have hB2 := belDrewN hB nq
      go_wp2
      go_roundw
      case rel => exact ⟨k + 1, by go_num, by omega, hB2⟩
      case measure => simp [intOf]; omega
    · obtain rfl : k = n := by omega
      clear HQ1 HQ2
      go_wp2
      go_ret
      exact ⟨rfl, hB⟩
end Go.Proofs.Ytaaagdmhokgcjaa
