
-- sameWords, same, handed, undashed, num.
import Derived.Test.YtmhamlhmmkbkaaaDoorL0
import Derived.Test.YtmhamlhmmkbkaaaDoorP6
import Derived.WalkLawsBesides
import Derived.BigQuiet
import Derived.Deep.Cut
namespace Go.Proofs.YtmhamlhmmkbkaaaDoor
open Go.ChangeShapes Go.WideShapes Go.ChangeAt Go.RowKit
set_option linter.unusedVariables false
set_option maxRecDepth 100000
set_option linter.unusedSimpArgs false
theorem belDrewN {B : Nat} {w w' : World} (h : Below B w w') (m : Nat) : Below B w (w'.drewN m) := by
  induction m with
  | zero => exact h
  | succ m ih => exact ih.drew
set_option maxHeartbeats 4000000 in
theorem sameW_c (v1 v2 : Value) (l : List ByteArray) (w : World) (h1 : RowT w v1 l) (h2 : RowT w v2 l) (hn : l.length ≤ 67108864) :
    Calls Tryd.prog 10 #[v1, v2] w fun e w' => e = .returned (.bool true) ∧ Below w.heap.size w w' := by
  obtain ⟨a1, c1, q1, _, _⟩ := h1.form
  obtain ⟨a2, c2, q2, _, _⟩ := h2.form
  obtain ⟨n, hnn⟩ : ∃ n, n = l.length := ⟨_, rfl⟩
  have HN := hidK hnn
  have HQ1 := hidK h1
  have HQ2 := hidK h2
  subst q1
  subst q2
  rw [← hnn] at hn ⊢ HQ1 HQ2
  clear h1 h2 hnn
  go_enter Tryd.func10, Tryd.ntmps10
  go_wp2
  go_loopw [5] (fun i wx => ∃ k : Nat, i = .int .i64 k ∧ k ≤ n ∧ Below w.heap.size w wx) (fun i _ => n - (intOf i).toNat)
  case atStart => exact ⟨0, rfl, Nat.zero_le _, Below.refl _ _⟩
  case round =>
    obtain ⟨k, rfl, hkn, hB⟩ := hrel
    by_cases hk : k < n
    · have kI : (k : Int) < (n : Int) := by omega
      have k0 : (0 : Int) ≤ (k : Int) := by omega
      have hkl : k < l.length := by have := HN.out; omega
      obtain ⟨x, hx⟩ : ∃ x, l[k]? = some x := ⟨_, List.getElem?_eq_getElem hkl⟩
      obtain ⟨b1, o1, p1, e1, d0⟩ := (HQ1.out.on hB).tx hx
      obtain ⟨b2, o2, p2, e2, f0⟩ := (HQ2.out.on hB).tx hx
      injection e1 with e1 e1b e1c
      injection e2 with e2 e2b e2c
      subst e1
      subst e2
      clear hx HQ1 HQ2 hkl e1b e1c e2b e2c
      go_wp2_with fail
      go_quiet (fail)
      have hB2 := belDrewN hB nq
      go_wp2
      go_roundw
      case rel => exact ⟨k + 1, by go_num, by omega, hB2⟩
      case measure => simp [intOf]; omega
    · obtain rfl : k = n := by omega
      clear HQ1 HQ2
      go_wp2
      go_ret
      exact ⟨rfl, hB⟩
theorem eqPos (a : Int) (s : ByteArray) (w : World) : (Op.equalIn 10000 25 (.agg #[.int .i64 a, .string s]) (.agg #[.int .i64 a, .string s])).run Tryd.prog w = .ok true w := by
  have u3 := Tryd.underlying3
  have a3 := Tryd.isAgg3
  have z3 := Tryd.sizeOf3
  have u9 := Tryd.underlying9
  have a9 := Tryd.isAgg9
  have z9 := Tryd.sizeOf9
  have hS : Tryd.prog.underlying 25 = some (.struct (Tryd.prog.fieldsOf 25)) := by kernel_rfl
  rw [show (10000 : Nat) = 9999 + 1 from rfl, run_equalIn_agg w 9999 25 _ _ hS (by kernel_rfl)]
  simp only [Program.fieldsOf, Tryd.underlying25]
  go_simp
set_option maxHeartbeats 4000000 in
theorem same15_c (c : Cm) (u v : Value) (w : World) (h1 : RowT w u c.nms) (h2 : RowT w v c.nms) (hn : c.nms.length ≤ 67108864) :
    Calls Tryd.prog 11 #[.agg (cmL c u).toArray, .agg (cmL c v).toArray] w fun e w' => e = .returned (.bool true) ∧ Below w.heap.size w w' := by
  obtain ⟨prog, op, vb, up, qu, det, dat, bare, thin, kind, wh, anc, arc, nms⟩ := c
  simp only [cmL] at h1 h2 hn ⊢
  obtain ⟨on, hon⟩ : ∃ on : Int, on = (op.toNat : Int) := ⟨_, rfl⟩
  rw [← hon]
  clear hon
  have hE := eqPos wh anc
  obtain ⟨W, hW⟩ : ∃ W, (w.alloc (.cells #[.int .i64 prog, .int .u8 on, .bool vb, .bool up, .bool qu, .bool det, .bool dat, .bool bare, .bool thin, .int .i64 kind, .int .i64 wh, .string anc, .string arc, u] 27)).alloc (.cells #[.int .i64 prog, .int .u8 on, .bool vb, .bool up, .bool qu, .bool det, .bool dat, .bool bare, .bool thin, .int .i64 kind, .int .i64 wh, .string anc, .string arc, v] 27) = W := ⟨_, rfl⟩
  have hP := hupK (heap_alloc_new w (.cells #[.int .i64 prog, .int .u8 on, .bool vb, .bool up, .bool qu, .bool det, .bool dat, .bool bare, .bool thin, .int .i64 kind, .int .i64 wh, .string anc, .string arc, u] 27)) (.cells #[.int .i64 prog, .int .u8 on, .bool vb, .bool up, .bool qu, .bool det, .bool dat, .bool bare, .bool thin, .int .i64 kind, .int .i64 wh, .string anc, .string arc, v] 27)
  have hQ := heap_new2K w (.cells #[.int .i64 prog, .int .u8 on, .bool vb, .bool up, .bool qu, .bool det, .bool dat, .bool bare, .bool thin, .int .i64 kind, .int .i64 wh, .string anc, .string arc, u] 27) (.cells #[.int .i64 prog, .int .u8 on, .bool vb, .bool up, .bool qu, .bool det, .bool dat, .bool bare, .bool thin, .int .i64 kind, .int .i64 wh, .string anc, .string arc, v] 27)
  have hB : Below w.heap.size w W := by rw [← hW]; exact bupK (bupK (Below.refl _ _) _) _
  rw [hW] at hP hQ
  have x0 := cell_rowK hP 0 _ rfl
  have y0 := cell_rowK hQ 0 _ rfl
  have x1 := cell_rowK hP 1 _ rfl
  have y1 := cell_rowK hQ 1 _ rfl
  have x2 := cell_rowK hP 2 _ rfl
  have y2 := cell_rowK hQ 2 _ rfl
  have x3 := cell_rowK hP 3 _ rfl
  have y3 := cell_rowK hQ 3 _ rfl
  have x4 := cell_rowK hP 4 _ rfl
  have y4 := cell_rowK hQ 4 _ rfl
  have x5 := cell_rowK hP 5 _ rfl
  have y5 := cell_rowK hQ 5 _ rfl
  have x6 := cell_rowK hP 6 _ rfl
  have y6 := cell_rowK hQ 6 _ rfl
  have x7 := cell_rowK hP 7 _ rfl
  have y7 := cell_rowK hQ 7 _ rfl
  have x8 := cell_rowK hP 8 _ rfl
  have y8 := cell_rowK hQ 8 _ rfl
  have x9 := cell_rowK hP 9 _ rfl
  have y9 := cell_rowK hQ 9 _ rfl
  have x10 := cell_rowK hP 10 _ rfl
  have y10 := cell_rowK hQ 10 _ rfl
  have x11 := cell_rowK hP 11 _ rfl
  have y11 := cell_rowK hQ 11 _ rfl
  have x12 := cell_rowK hP 12 _ rfl
  have y12 := cell_rowK hQ 12 _ rfl
  have x13 := cell_rowK hP 13 _ rfl
  have y13 := cell_rowK hQ 13 _ rfl
  have HS := hidK (sameW_c u v nms W (h1.on hB) (h2.on hB) hn)
  clear hP hQ h1 h2 hn
  go_enter Tryd.func11, Tryd.ntmps11
  go_upto_region 1 with fail
  try rw [hW]
  clear hW
  go_upto_region 3 with fail
  go_upto_region 5 with fail
  go_wp2_with (go_at_call 10; refine HS.out.mono ?_; rintro e w1 ⟨rfl, hb1⟩)
  go_ret
  exact ⟨rfl, bel3K hB hb1⟩
theorem num_c (n : Int) (w : World) : Calls Tryd.prog 9 #[.int .i64 n] w fun e w' => e = .returned (.int .i64 n) ∧ w' = w := by
  go_enter Tryd.func9, Tryd.ntmps9
  go_wp2
  go_ret
  exact ⟨rfl, rfl⟩
set_option maxHeartbeats 2000000 in
theorem undashed_c (s : ByteArray) (w : World) (hs : s.size ≤ 1073741824) :
    Calls Tryd.prog 20 #[.string s] w fun e w' => e = .returned (.string (undL s)) ∧ w' = w := by
  by_cases h : 1 < s.size
  · have hI : (1 : Int) < (s.size : Int) := by omega
    have hd := dsh_long h
    have q1 : ¬ (9223372036854775807 < 1 + s.size) := by omega
    by_cases hb : s[0]'(by omega) = 45
    · have hq : (((s[0]'(by omega)).toNat : Int) == 45) = true := by rw [hb]; rfl
      have HU := hidK (show (⟨#[120]⟩ : ByteArray) ++ s = undL s by
        unfold undL
        rw [hd, hb]
        apply ByteArray.ext
        simp [byB, byL])
      clear hd hb
      go_enter Tryd.func20, Tryd.ntmps20
      go_wp2
      go_ret
      exact ⟨by rw [← HU.out]; rfl, rfl⟩
    · have hq : (((s[0]'(by omega)).toNat : Int) == 45) = false := u8I (b := 45) hb
      have HU := hidK (show s = undL s by
        unfold undL
        rw [hd, beq_eq_false_iff_ne.2 hb]
        rfl)
      clear hd hb
      go_enter Tryd.func20, Tryd.ntmps20
      go_wp2
      go_ret
      exact ⟨by rw [← HU.out]; rfl, rfl⟩
  · have hI : ¬ (1 : Int) < (s.size : Int) := by omega
    have HU := hidK (show s = undL s by unfold undL; rw [dsh_short (by omega)]; rfl)
    clear h
    go_enter Tryd.func20, Tryd.ntmps20
    go_wp2
    go_ret
    exact ⟨by rw [← HU.out]; rfl, rfl⟩
end Go.Proofs.YtmhamlhmmkbkaaaDoor
