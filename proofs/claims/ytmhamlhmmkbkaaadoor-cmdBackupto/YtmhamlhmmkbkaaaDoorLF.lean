
-- flagLetters, placeLetter.
import Derived.Test.YtmhamlhmmkbkaaaDoorC0
import Derived.Test.YtmhamlhmmkbkaaaDoorKQ
import Derived.Test.YtmhamlhmmkbkaaaDoorL0
import Derived.Deep.Cut
namespace Go.Proofs.YtmhamlhmmkbkaaaDoor
open Go.ChangeShapes Go.WideShapes Go.ChangeAt Go.RowKit
set_option linter.unusedVariables false
set_option maxRecDepth 100000
set_option linter.unusedSimpArgs false
theorem wp_idx2 {P : Program} {ops : Array Oper} {rest : List Oper} {o : Oper} {a : Act} {w : World} {Q : Exit → Act → World → Prop} (hg : o.guard = none) (t : TypeId) (x y : Operand) (hop : o.op = Op.index t x y) (av iv v : Value) (hx : a.eval x = av) (hy : a.eval y = iv) (hrun : (Instr.index t av iv).run P w = .ok v w)
    (hK : wpList P ops Q rest (a.put o.dst v) w) : wpList P ops Q (o :: rest) a w := by
  refine wpList_plain hg fun K' hK' => ?_
  unfold Oper.wp
  simp [execOp, hop, hx, hy, hrun, Result.andThen]
  exact hK' _ _ hK
def flg (qu det dat bare thin up vb : Bool) : List (List UInt8) := [flagL qu 99, flagL det 68, flagL dat 111, flagL bare 83, flagL thin 84, flagL up 117, flagL vb 118]
def flN (qu det dat bare thin up vb : Bool) (k : Nat) : List UInt8 := ((flg qu det dat bare thin up vb).take k).flatMap id
theorem flN_len (qu det dat bare thin up vb : Bool) (k : Nat) : (flN qu det dat bare thin up vb k).length ≤ 7 := by
  unfold flN
  have h : ∀ l : List (List UInt8), (∀ x ∈ l, x.length ≤ 1) → (l.flatMap id).length ≤ l.length := by
    intro l
    induction l with
    | nil => intro _; simp
    | cons a t ih =>
      intro h
      have h1 := h a (by simp)
      have h2 := ih fun x hx => h x (by simp [hx])
      simp only [List.flatMap_cons, id, List.length_append, List.length_cons]
      omega
  refine Nat.le_trans (h _ ?_) ?_
  · intro x hx
    have hx := List.mem_of_mem_take hx
    simp only [flg, List.mem_cons, List.not_mem_nil, or_false] at hx
    rcases hx with rfl | rfl | rfl | rfl | rfl | rfl | rfl <;> (unfold flagL; split <;> simp)
  · rw [List.length_take]
    exact Nat.min_le_right _ _
def flagsL (c : Cm) : List UInt8 := flN c.qu c.det c.dat c.bare c.thin c.up c.vb 7
theorem keyL_flags (c : Cm) : keyL c = c.op :: ((if c.wh = 1 then [97] else []) ++ ((if c.wh = 2 then [98] else []) ++ flagsL c)) := by
  unfold keyL flagsL flN flg
  simp
theorem byB_app (a b : List UInt8) : byB a ++ byB b = byB (a ++ b) := by apply ByteArray.ext; simp [byB]
theorem byB_size (a : List UInt8) : (byB a).size = a.length := by rw [← byL_size, byL_byB]
set_option maxHeartbeats 8000000 in
theorem flags_c (c : Cm) (an : Option Addr) (nl nc : Nat) (w : World) : Calls Tryd.prog 31 #[.agg (cmL c (.slice an nl nc)).toArray] w fun e w' => e = .returned (.string (byB (flagsL c))) ∧ Below w.heap.size w w' := by
  obtain ⟨prog, op, vb, up, qu, det, dat, bare, thin, kind, wh, anc, arc, nms⟩ := c
  simp only [cmL, flagsL]
  obtain ⟨on, hon⟩ : ∃ on : Int, on = (op.toNat : Int) := ⟨_, rfl⟩
  rw [← hon]
  clear hon
  obtain ⟨F, hF⟩ : ∃ F, F = byB (flN qu det dat bare thin up vb 7) := ⟨_, rfl⟩
  have HF := hidK hF
  rw [← hF]
  obtain ⟨w1, hw1⟩ : ∃ w1, w.alloc (.cells #[.int .i64 prog, .int .u8 on, .bool vb, .bool up, .bool qu, .bool det, .bool dat, .bool bare, .bool thin, .int .i64 kind, .int .i64 wh, .string anc, .string arc, .slice an nl nc] 27) = w1 := ⟨_, rfl⟩
  have hP := heap_alloc_new w (.cells #[.int .i64 prog, .int .u8 on, .bool vb, .bool up, .bool qu, .bool det, .bool dat, .bool bare, .bool thin, .int .i64 kind, .int .i64 wh, .string anc, .string arc, .slice an nl nc] 27)
  have hB : Below w.heap.size w w1 := by rw [← hw1]; exact bupK (Below.refl _ _) _
  rw [hw1] at hP
  have x2 := cell_rowK hP 2 _ rfl
  have x3 := cell_rowK hP 3 _ rfl
  have x4 := cell_rowK hP 4 _ rfl
  have x5 := cell_rowK hP 5 _ rfl
  have x6 := cell_rowK hP 6 _ rfl
  have x7 := cell_rowK hP 7 _ rfl
  have x8 := cell_rowK hP 8 _ rfl
  clear hP hF
  go_enter Tryd.func31, Tryd.ntmps31
  go_upto_region 1 with fail
  try rw [hw1]
  clear hw1
  go_wp2
  clear x2 x3 x4 x5 x6 x7 x8
  go_loopw [28, 3] (fun i vs wx => ∃ (k : Nat) (s : ByteArray), i = .int .i64 k ∧ vs = .string s ∧ k ≤ 7 ∧ s.size ≤ 7 ∧ Hid (s = byB (flN qu det dat bare thin up vb k)) ∧ Below w.heap.size w wx) (fun i _ _ => 7 - (intOf i).toNat)
  case atStart => exact ⟨0, ⟨#[]⟩, rfl, rfl, by omega, by decide, rfl, hB⟩
  case round =>
    obtain ⟨k, s, rfl, rfl, hk, hs, hS, hBx⟩ := hrel
    have HB := hidK hBx
    have hcs : k = 0 ∨ k = 1 ∨ k = 2 ∨ k = 3 ∨ k = 4 ∨ k = 5 ∨ k = 6 ∨ k = 7 := by omega
    have hsz : ∀ k, (byB (flN qu det dat bare thin up vb k)).size ≤ 7 := fun k => by rw [byB_size]; exact flN_len _ _ _ _ _ _ _ k
    have HSZ := hidK hsz
    clear hk hBx hB hsz
    rcases hcs with rfl | rfl | rfl | rfl | rfl | rfl | rfl | rfl
    · cases hq : qu with
      | true =>
        rw [hq] at hS HSZ HF
        have he : s ++ ⟨#[99]⟩ = byB (flN true det dat bare thin up vb 1) := by
          rw [hS.out]
          show byB _ ++ byB [99] = _
          rw [byB_app]
          exact congrArg byB (by simp [flN, flg, flagL])
        have hz2 : (s ++ ⟨#[99]⟩).size ≤ 7 := by rw [he]; exact HSZ.out 1
        have HE := hidK he
        have HZ2 := hidK hz2
        clear he hz2
        go_wp2_with (refine wp_idx2 rfl _ _ _ rfl (.agg #[.string ⟨#[99]⟩, .bool true, .string ⟨#[68]⟩, .bool det, .string ⟨#[111]⟩, .bool dat, .string ⟨#[83]⟩, .bool bare, .string ⟨#[84]⟩, .bool thin, .string ⟨#[117]⟩, .bool up, .string ⟨#[118]⟩, .bool vb]) (.int .i64 0) (.agg #[.string ⟨#[99]⟩, .bool true]) rfl rfl (by kernel_rfl) ?_)
        go_roundw
        case rel => exact ⟨1, _, by go_num, rfl, by omega, HZ2.out, HE.out, HB.out.alloc HB.out.size _⟩
        case measure => simp [intOf]
      | false =>
        rw [hq] at hS HSZ HF
        have he : s = byB (flN false det dat bare thin up vb 1) := by
          rw [hS.out]
          exact congrArg byB (by simp [flN, flg, flagL])
        have HE := hidK he
        clear he
        go_wp2_with (refine wp_idx2 rfl _ _ _ rfl (.agg #[.string ⟨#[99]⟩, .bool false, .string ⟨#[68]⟩, .bool det, .string ⟨#[111]⟩, .bool dat, .string ⟨#[83]⟩, .bool bare, .string ⟨#[84]⟩, .bool thin, .string ⟨#[117]⟩, .bool up, .string ⟨#[118]⟩, .bool vb]) (.int .i64 0) (.agg #[.string ⟨#[99]⟩, .bool false]) rfl rfl (by kernel_rfl) ?_)
        go_roundw
        case rel => exact ⟨1, s, by go_num, rfl, by omega, hs, HE.out, HB.out.alloc HB.out.size _⟩
        case measure => simp [intOf]
    · cases hq : det with
      | true =>
        rw [hq] at hS HSZ HF
        have he : s ++ ⟨#[68]⟩ = byB (flN qu true dat bare thin up vb 2) := by
          rw [hS.out]
          show byB _ ++ byB [68] = _
          rw [byB_app]
          exact congrArg byB (by simp [flN, flg, flagL])
        have hz2 : (s ++ ⟨#[68]⟩).size ≤ 7 := by rw [he]; exact HSZ.out 2
        have HE := hidK he
        have HZ2 := hidK hz2
        clear he hz2
        go_wp2_with (refine wp_idx2 rfl _ _ _ rfl (.agg #[.string ⟨#[99]⟩, .bool qu, .string ⟨#[68]⟩, .bool true, .string ⟨#[111]⟩, .bool dat, .string ⟨#[83]⟩, .bool bare, .string ⟨#[84]⟩, .bool thin, .string ⟨#[117]⟩, .bool up, .string ⟨#[118]⟩, .bool vb]) (.int .i64 1) (.agg #[.string ⟨#[68]⟩, .bool true]) rfl rfl (by kernel_rfl) ?_)
        go_roundw
        case rel => exact ⟨2, _, by go_num, rfl, by omega, HZ2.out, HE.out, HB.out.alloc HB.out.size _⟩
        case measure => simp [intOf]
      | false =>
        rw [hq] at hS HSZ HF
        have he : s = byB (flN qu false dat bare thin up vb 2) := by
          rw [hS.out]
          exact congrArg byB (by simp [flN, flg, flagL])
        have HE := hidK he
        clear he
        go_wp2_with (refine wp_idx2 rfl _ _ _ rfl (.agg #[.string ⟨#[99]⟩, .bool qu, .string ⟨#[68]⟩, .bool false, .string ⟨#[111]⟩, .bool dat, .string ⟨#[83]⟩, .bool bare, .string ⟨#[84]⟩, .bool thin, .string ⟨#[117]⟩, .bool up, .string ⟨#[118]⟩, .bool vb]) (.int .i64 1) (.agg #[.string ⟨#[68]⟩, .bool false]) rfl rfl (by kernel_rfl) ?_)
        go_roundw
        case rel => exact ⟨2, s, by go_num, rfl, by omega, hs, HE.out, HB.out.alloc HB.out.size _⟩
        case measure => simp [intOf]
    · cases hq : dat with
      | true =>
        rw [hq] at hS HSZ HF
        have he : s ++ ⟨#[111]⟩ = byB (flN qu det true bare thin up vb 3) := by
          rw [hS.out]
          show byB _ ++ byB [111] = _
          rw [byB_app]
          exact congrArg byB (by simp [flN, flg, flagL])
        have hz2 : (s ++ ⟨#[111]⟩).size ≤ 7 := by rw [he]; exact HSZ.out 3
        have HE := hidK he
        have HZ2 := hidK hz2
        clear he hz2
        go_wp2_with (refine wp_idx2 rfl _ _ _ rfl (.agg #[.string ⟨#[99]⟩, .bool qu, .string ⟨#[68]⟩, .bool det, .string ⟨#[111]⟩, .bool true, .string ⟨#[83]⟩, .bool bare, .string ⟨#[84]⟩, .bool thin, .string ⟨#[117]⟩, .bool up, .string ⟨#[118]⟩, .bool vb]) (.int .i64 2) (.agg #[.string ⟨#[111]⟩, .bool true]) rfl rfl (by kernel_rfl) ?_)
        go_roundw
        case rel => exact ⟨3, _, by go_num, rfl, by omega, HZ2.out, HE.out, HB.out.alloc HB.out.size _⟩
        case measure => simp [intOf]
      | false =>
        rw [hq] at hS HSZ HF
        have he : s = byB (flN qu det false bare thin up vb 3) := by
          rw [hS.out]
          exact congrArg byB (by simp [flN, flg, flagL])
        have HE := hidK he
        clear he
        go_wp2_with (refine wp_idx2 rfl _ _ _ rfl (.agg #[.string ⟨#[99]⟩, .bool qu, .string ⟨#[68]⟩, .bool det, .string ⟨#[111]⟩, .bool false, .string ⟨#[83]⟩, .bool bare, .string ⟨#[84]⟩, .bool thin, .string ⟨#[117]⟩, .bool up, .string ⟨#[118]⟩, .bool vb]) (.int .i64 2) (.agg #[.string ⟨#[111]⟩, .bool false]) rfl rfl (by kernel_rfl) ?_)
        go_roundw
        case rel => exact ⟨3, s, by go_num, rfl, by omega, hs, HE.out, HB.out.alloc HB.out.size _⟩
        case measure => simp [intOf]
    · cases hq : bare with
      | true =>
        rw [hq] at hS HSZ HF
        have he : s ++ ⟨#[83]⟩ = byB (flN qu det dat true thin up vb 4) := by
          rw [hS.out]
          show byB _ ++ byB [83] = _
          rw [byB_app]
          exact congrArg byB (by simp [flN, flg, flagL])
        have hz2 : (s ++ ⟨#[83]⟩).size ≤ 7 := by rw [he]; exact HSZ.out 4
        have HE := hidK he
        have HZ2 := hidK hz2
        clear he hz2
        go_wp2_with (refine wp_idx2 rfl _ _ _ rfl (.agg #[.string ⟨#[99]⟩, .bool qu, .string ⟨#[68]⟩, .bool det, .string ⟨#[111]⟩, .bool dat, .string ⟨#[83]⟩, .bool true, .string ⟨#[84]⟩, .bool thin, .string ⟨#[117]⟩, .bool up, .string ⟨#[118]⟩, .bool vb]) (.int .i64 3) (.agg #[.string ⟨#[83]⟩, .bool true]) rfl rfl (by kernel_rfl) ?_)
        go_roundw
        case rel => exact ⟨4, _, by go_num, rfl, by omega, HZ2.out, HE.out, HB.out.alloc HB.out.size _⟩
        case measure => simp [intOf]
      | false =>
        rw [hq] at hS HSZ HF
        have he : s = byB (flN qu det dat false thin up vb 4) := by
          rw [hS.out]
          exact congrArg byB (by simp [flN, flg, flagL])
        have HE := hidK he
        clear he
        go_wp2_with (refine wp_idx2 rfl _ _ _ rfl (.agg #[.string ⟨#[99]⟩, .bool qu, .string ⟨#[68]⟩, .bool det, .string ⟨#[111]⟩, .bool dat, .string ⟨#[83]⟩, .bool false, .string ⟨#[84]⟩, .bool thin, .string ⟨#[117]⟩, .bool up, .string ⟨#[118]⟩, .bool vb]) (.int .i64 3) (.agg #[.string ⟨#[83]⟩, .bool false]) rfl rfl (by kernel_rfl) ?_)
        go_roundw
        case rel => exact ⟨4, s, by go_num, rfl, by omega, hs, HE.out, HB.out.alloc HB.out.size _⟩
        case measure => simp [intOf]
    · cases hq : thin with
      | true =>
        rw [hq] at hS HSZ HF
        have he : s ++ ⟨#[84]⟩ = byB (flN qu det dat bare true up vb 5) := by
          rw [hS.out]
          show byB _ ++ byB [84] = _
          rw [byB_app]
          exact congrArg byB (by simp [flN, flg, flagL])
        have hz2 : (s ++ ⟨#[84]⟩).size ≤ 7 := by rw [he]; exact HSZ.out 5
        have HE := hidK he
        have HZ2 := hidK hz2
        clear he hz2
        go_wp2_with (refine wp_idx2 rfl _ _ _ rfl (.agg #[.string ⟨#[99]⟩, .bool qu, .string ⟨#[68]⟩, .bool det, .string ⟨#[111]⟩, .bool dat, .string ⟨#[83]⟩, .bool bare, .string ⟨#[84]⟩, .bool true, .string ⟨#[117]⟩, .bool up, .string ⟨#[118]⟩, .bool vb]) (.int .i64 4) (.agg #[.string ⟨#[84]⟩, .bool true]) rfl rfl (by kernel_rfl) ?_)
        go_roundw
        case rel => exact ⟨5, _, by go_num, rfl, by omega, HZ2.out, HE.out, HB.out.alloc HB.out.size _⟩
        case measure => simp [intOf]
      | false =>
        rw [hq] at hS HSZ HF
        have he : s = byB (flN qu det dat bare false up vb 5) := by
          rw [hS.out]
          exact congrArg byB (by simp [flN, flg, flagL])
        have HE := hidK he
        clear he
        go_wp2_with (refine wp_idx2 rfl _ _ _ rfl (.agg #[.string ⟨#[99]⟩, .bool qu, .string ⟨#[68]⟩, .bool det, .string ⟨#[111]⟩, .bool dat, .string ⟨#[83]⟩, .bool bare, .string ⟨#[84]⟩, .bool false, .string ⟨#[117]⟩, .bool up, .string ⟨#[118]⟩, .bool vb]) (.int .i64 4) (.agg #[.string ⟨#[84]⟩, .bool false]) rfl rfl (by kernel_rfl) ?_)
        go_roundw
        case rel => exact ⟨5, s, by go_num, rfl, by omega, hs, HE.out, HB.out.alloc HB.out.size _⟩
        case measure => simp [intOf]
    · cases hq : up with
      | true =>
        rw [hq] at hS HSZ HF
        have he : s ++ ⟨#[117]⟩ = byB (flN qu det dat bare thin true vb 6) := by
          rw [hS.out]
          show byB _ ++ byB [117] = _
          rw [byB_app]
          exact congrArg byB (by simp [flN, flg, flagL])
        have hz2 : (s ++ ⟨#[117]⟩).size ≤ 7 := by rw [he]; exact HSZ.out 6
        have HE := hidK he
        have HZ2 := hidK hz2
        clear he hz2
        go_wp2_with (refine wp_idx2 rfl _ _ _ rfl (.agg #[.string ⟨#[99]⟩, .bool qu, .string ⟨#[68]⟩, .bool det, .string ⟨#[111]⟩, .bool dat, .string ⟨#[83]⟩, .bool bare, .string ⟨#[84]⟩, .bool thin, .string ⟨#[117]⟩, .bool true, .string ⟨#[118]⟩, .bool vb]) (.int .i64 5) (.agg #[.string ⟨#[117]⟩, .bool true]) rfl rfl (by kernel_rfl) ?_)
        go_roundw
        case rel => exact ⟨6, _, by go_num, rfl, by omega, HZ2.out, HE.out, HB.out.alloc HB.out.size _⟩
        case measure => simp [intOf]
      | false =>
        rw [hq] at hS HSZ HF
        have he : s = byB (flN qu det dat bare thin false vb 6) := by
          rw [hS.out]
          exact congrArg byB (by simp [flN, flg, flagL])
        have HE := hidK he
        clear he
        go_wp2_with (refine wp_idx2 rfl _ _ _ rfl (.agg #[.string ⟨#[99]⟩, .bool qu, .string ⟨#[68]⟩, .bool det, .string ⟨#[111]⟩, .bool dat, .string ⟨#[83]⟩, .bool bare, .string ⟨#[84]⟩, .bool thin, .string ⟨#[117]⟩, .bool false, .string ⟨#[118]⟩, .bool vb]) (.int .i64 5) (.agg #[.string ⟨#[117]⟩, .bool false]) rfl rfl (by kernel_rfl) ?_)
        go_roundw
        case rel => exact ⟨6, s, by go_num, rfl, by omega, hs, HE.out, HB.out.alloc HB.out.size _⟩
        case measure => simp [intOf]
    · cases hq : vb with
      | true =>
        rw [hq] at hS HSZ HF
        have he : s ++ ⟨#[118]⟩ = byB (flN qu det dat bare thin up true 7) := by
          rw [hS.out]
          show byB _ ++ byB [118] = _
          rw [byB_app]
          exact congrArg byB (by simp [flN, flg, flagL])
        have hz2 : (s ++ ⟨#[118]⟩).size ≤ 7 := by rw [he]; exact HSZ.out 7
        have HE := hidK he
        have HZ2 := hidK hz2
        clear he hz2
        go_wp2_with (refine wp_idx2 rfl _ _ _ rfl (.agg #[.string ⟨#[99]⟩, .bool qu, .string ⟨#[68]⟩, .bool det, .string ⟨#[111]⟩, .bool dat, .string ⟨#[83]⟩, .bool bare, .string ⟨#[84]⟩, .bool thin, .string ⟨#[117]⟩, .bool up, .string ⟨#[118]⟩, .bool true]) (.int .i64 6) (.agg #[.string ⟨#[118]⟩, .bool true]) rfl rfl (by kernel_rfl) ?_)
        go_roundw
        case rel => exact ⟨7, _, by go_num, rfl, by omega, HZ2.out, HE.out, HB.out.alloc HB.out.size _⟩
        case measure => simp [intOf]
      | false =>
        rw [hq] at hS HSZ HF
        have he : s = byB (flN qu det dat bare thin up false 7) := by
          rw [hS.out]
          exact congrArg byB (by simp [flN, flg, flagL])
        have HE := hidK he
        clear he
        go_wp2_with (refine wp_idx2 rfl _ _ _ rfl (.agg #[.string ⟨#[99]⟩, .bool qu, .string ⟨#[68]⟩, .bool det, .string ⟨#[111]⟩, .bool dat, .string ⟨#[83]⟩, .bool bare, .string ⟨#[84]⟩, .bool thin, .string ⟨#[117]⟩, .bool up, .string ⟨#[118]⟩, .bool false]) (.int .i64 6) (.agg #[.string ⟨#[118]⟩, .bool false]) rfl rfl (by kernel_rfl) ?_)
        go_roundw
        case rel => exact ⟨7, s, by go_num, rfl, by omega, hs, HE.out, HB.out.alloc HB.out.size _⟩
        case measure => simp [intOf]
    · go_wp2
      go_ret
      refine ⟨?_, HB.out⟩
      rw [HF.out, ← hS.out]
      rfl
def plW (wh : Int) : ByteArray := if wh = 1 then ⟨#[97]⟩ else if wh = 2 then ⟨#[98]⟩ else ⟨#[]⟩
theorem place_ok (wh : Int) (w : World) (h : wh = 0 ∨ wh = 1 ∨ wh = 2) : Calls Tryd.prog 30 #[.int .i64 wh] w fun e w' => e = .returned (.tuple #[.string (plW wh), .bool true]) ∧ w' = w := by
  rcases h with rfl | rfl | rfl
  · go_enter Tryd.func30, Tryd.ntmps30
    go_wp2
    go_ret2
    exact ⟨rfl, rfl⟩
  · go_enter Tryd.func30, Tryd.ntmps30
    go_wp2
    go_ret2
    exact ⟨rfl, rfl⟩
  · go_enter Tryd.func30, Tryd.ntmps30
    go_wp2
    go_ret2
    exact ⟨rfl, rfl⟩
theorem place_no (wh : Int) (w : World) (h0 : wh ≠ 0) (h1 : wh ≠ 1) (h2 : wh ≠ 2) : Calls Tryd.prog 30 #[.int .i64 wh] w fun e w' => e = .returned (.tuple #[.string ⟨#[]⟩, .bool false]) ∧ w' = w := by
  have g0 : (wh == 0) = false := beq_eq_false_iff_ne.2 h0
  have g1 : (wh == 1) = false := beq_eq_false_iff_ne.2 h1
  have g2 : (wh == 2) = false := beq_eq_false_iff_ne.2 h2
  go_enter Tryd.func30, Tryd.ntmps30
  go_wp2
  go_ret2
  exact ⟨rfl, rfl⟩
end Go.Proofs.YtmhamlhmmkbkaaaDoor
