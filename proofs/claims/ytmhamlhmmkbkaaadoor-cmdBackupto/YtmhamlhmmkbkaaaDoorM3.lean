import Derived.Test.YtmhamlhmmkbkaaaDoorLY
import Derived.Test.YtmhamlhmmkbkaaaDoorLZ
import Derived.Test.YtmhamlhmmkbkaaaDoorLM
import Derived.Deep.RegionHeld3
import Derived.Deep.CutRange
import Derived.Laws.Rows
import Derived.Shelf.Abstract

-- Line.
namespace Go.Proofs.YtmhamlhmmkbkaaaDoor
open Go.ChangeShapes Go.WideShapes Go.ChangeAt Go.RowKit
set_option linter.unusedVariables false
set_option maxRecDepth 100000
set_option linter.unusedSimpArgs false
set_option maxHeartbeats 4000000 in
theorem line_no (prog : Int) (r : Int) (on kind wh : Int) (vb up qu det dat bare thin : Bool) (anc arc : ByteArray) (an : Option Addr) (nl nc : Nat) (w : World) (hr : (r != 0) = true) (HWY : Hid (∀ W, Calls Tryd.prog 16 #[.agg #[.int .i64 prog, .int .u8 on, .bool vb, .bool up, .bool qu, .bool det, .bool dat, .bool bare, .bool thin, .int .i64 kind, .int .i64 wh, .string anc, .string arc, .slice an nl nc]] W fun e w' => e = .returned (.int .i64 r) ∧ Below W.heap.size W w')) :
    Calls Tryd.prog 12 #[.agg #[.int .i64 prog, .int .u8 on, .bool vb, .bool up, .bool qu, .bool det, .bool dat, .bool bare, .bool thin, .int .i64 kind, .int .i64 wh, .string anc, .string arc, .slice an nl nc]] w fun e w' => e = .returned (.tuple #[.slice none 0 0, .int .i64 r]) ∧ Below w.heap.size w w' := by
  obtain ⟨w1, hw1⟩ : ∃ w1, w.alloc (.cells #[.int .i64 prog, .int .u8 on, .bool vb, .bool up, .bool qu, .bool det, .bool dat, .bool bare, .bool thin, .int .i64 kind, .int .i64 wh, .string anc, .string arc, .slice an nl nc] 27) = w1 := ⟨_, rfl⟩
  have hP := heap_alloc_new w (.cells #[.int .i64 prog, .int .u8 on, .bool vb, .bool up, .bool qu, .bool det, .bool dat, .bool bare, .bool thin, .int .i64 kind, .int .i64 wh, .string anc, .string arc, .slice an nl nc] 27)
  have hB : Below w.heap.size w w1 := by rw [← hw1]; exact bupK (Below.refl _ _) _
  rw [hw1] at hP
  go_enter Tryd.func12, Tryd.ntmps12
  go_upto_region 1 with fail
  try rw [hw1]
  clear hw1
  go_wp2_with (first
    | (go_at_call 16; refine (HWY.out _).mono ?_; rintro e w2 ⟨rfl, b2⟩)
    | (refine wpList_load_row rfl _ _ rfl w.heap.size rfl _ #[.int .i64 prog, .int .u8 on, .bool vb, .bool up, .bool qu, .bool det, .bool dat, .bool bare, .bool thin, .int .i64 kind, .int .i64 wh, .string anc, .string arc, .slice an nl nc] (0, 0) _ hP Tryd.underlying27 rfl (by kernel_rfl) ?_))
  go_ret2
  exact ⟨rfl, bel3K hB b2⟩
set_option maxHeartbeats 4000000 in
theorem line_ran (on kind wh : Int) (vb up qu det dat bare thin : Bool) (anc arc : ByteArray) (an : Option Addr) (nl nc : Nat) (w : World) (R : List ByteArray) (HF : Hid (∀ W, Below w.heap.size w W → Calls Tryd.prog 17 #[.agg #[.int .i64 1, .int .u8 on, .bool vb, .bool up, .bool qu, .bool det, .bool dat, .bool bare, .bool thin, .int .i64 kind, .int .i64 wh, .string anc, .string arc, .slice an nl nc]] W fun e w' => ∃ u, e = .returned u ∧ OwnT W.heap.size w' u R ∧ Below W.heap.size W w')) (HWY : Hid (∀ W, Calls Tryd.prog 16 #[.agg #[.int .i64 1, .int .u8 on, .bool vb, .bool up, .bool qu, .bool det, .bool dat, .bool bare, .bool thin, .int .i64 kind, .int .i64 wh, .string anc, .string arc, .slice an nl nc]] W fun e w' => e = .returned (.int .i64 0) ∧ Below W.heap.size W w')) :
    Calls Tryd.prog 12 #[.agg #[.int .i64 1, .int .u8 on, .bool vb, .bool up, .bool qu, .bool det, .bool dat, .bool bare, .bool thin, .int .i64 kind, .int .i64 wh, .string anc, .string arc, .slice an nl nc]] w fun e w' => ∃ u, e = .returned (.tuple #[u, .int .i64 0]) ∧ OwnT w.heap.size w' u R ∧ Below w.heap.size w w' := by
  obtain ⟨w1, hw1⟩ : ∃ w1, w.alloc (.cells #[.int .i64 1, .int .u8 on, .bool vb, .bool up, .bool qu, .bool det, .bool dat, .bool bare, .bool thin, .int .i64 kind, .int .i64 wh, .string anc, .string arc, .slice an nl nc] 27) = w1 := ⟨_, rfl⟩
  have hP := heap_alloc_new w (.cells #[.int .i64 1, .int .u8 on, .bool vb, .bool up, .bool qu, .bool det, .bool dat, .bool bare, .bool thin, .int .i64 kind, .int .i64 wh, .string anc, .string arc, .slice an nl nc] 27)
  have hB : Below w.heap.size w w1 := by rw [← hw1]; exact bupK (Below.refl _ _) _
  rw [hw1] at hP
  go_enter Tryd.func12, Tryd.ntmps12
  go_upto_region 1 with fail
  try rw [hw1]
  clear hw1
  go_upto_region 2 with (first
    | (go_at_call 16; refine (HWY.out _).mono ?_; rintro e w2 ⟨rfl, b2⟩)
    | (refine wpList_load_row rfl _ _ rfl w.heap.size rfl _ #[.int .i64 1, .int .u8 on, .bool vb, .bool up, .bool qu, .bool det, .bool dat, .bool bare, .bool thin, .int .i64 kind, .int .i64 wh, .string anc, .string arc, .slice an nl nc] (0, 0) _ hP Tryd.underlying27 rfl (by kernel_rfl) ?_))
  have hP2 := hkeepK b2 hP
  have x0 := cell_rowK hP2 0 _ rfl
  have hB2 := bel3K hB b2
  clear hP
  go_wp2_with (first
    | (go_at_call 17; refine (HF.out _ hB2).mono ?_; rintro e w3 ⟨u3, rfl, o3, b3⟩)
    | (refine wpList_load_row rfl _ _ rfl w.heap.size rfl _ #[.int .i64 1, .int .u8 on, .bool vb, .bool up, .bool qu, .bool det, .bool dat, .bool bare, .bool thin, .int .i64 kind, .int .i64 wh, .string anc, .string arc, .slice an nl nc] (0, 0) _ hP2 Tryd.underlying27 rfl (by kernel_rfl) ?_))
  go_ret2
  exact ⟨u3, rfl, OwnT.le o3 hB2.size, bel3K hB2 b3⟩
set_option maxHeartbeats 4000000 in
theorem line_ar (on kind wh : Int) (vb up qu det dat bare thin : Bool) (anc arc : ByteArray) (an : Option Addr) (nl nc : Nat) (w : World) (R : List ByteArray) (HF : Hid (∀ W, Below w.heap.size w W → Calls Tryd.prog 18 #[.agg #[.int .i64 0, .int .u8 on, .bool vb, .bool up, .bool qu, .bool det, .bool dat, .bool bare, .bool thin, .int .i64 kind, .int .i64 wh, .string anc, .string arc, .slice an nl nc]] W fun e w' => ∃ u, e = .returned u ∧ OwnT W.heap.size w' u R ∧ Below W.heap.size W w')) (HWY : Hid (∀ W, Calls Tryd.prog 16 #[.agg #[.int .i64 0, .int .u8 on, .bool vb, .bool up, .bool qu, .bool det, .bool dat, .bool bare, .bool thin, .int .i64 kind, .int .i64 wh, .string anc, .string arc, .slice an nl nc]] W fun e w' => e = .returned (.int .i64 0) ∧ Below W.heap.size W w')) :
    Calls Tryd.prog 12 #[.agg #[.int .i64 0, .int .u8 on, .bool vb, .bool up, .bool qu, .bool det, .bool dat, .bool bare, .bool thin, .int .i64 kind, .int .i64 wh, .string anc, .string arc, .slice an nl nc]] w fun e w' => ∃ u, e = .returned (.tuple #[u, .int .i64 0]) ∧ OwnT w.heap.size w' u R ∧ Below w.heap.size w w' := by
  obtain ⟨w1, hw1⟩ : ∃ w1, w.alloc (.cells #[.int .i64 0, .int .u8 on, .bool vb, .bool up, .bool qu, .bool det, .bool dat, .bool bare, .bool thin, .int .i64 kind, .int .i64 wh, .string anc, .string arc, .slice an nl nc] 27) = w1 := ⟨_, rfl⟩
  have hP := heap_alloc_new w (.cells #[.int .i64 0, .int .u8 on, .bool vb, .bool up, .bool qu, .bool det, .bool dat, .bool bare, .bool thin, .int .i64 kind, .int .i64 wh, .string anc, .string arc, .slice an nl nc] 27)
  have hB : Below w.heap.size w w1 := by rw [← hw1]; exact bupK (Below.refl _ _) _
  rw [hw1] at hP
  go_enter Tryd.func12, Tryd.ntmps12
  go_upto_region 1 with fail
  try rw [hw1]
  clear hw1
  go_upto_region 2 with (first
    | (go_at_call 16; refine (HWY.out _).mono ?_; rintro e w2 ⟨rfl, b2⟩)
    | (refine wpList_load_row rfl _ _ rfl w.heap.size rfl _ #[.int .i64 0, .int .u8 on, .bool vb, .bool up, .bool qu, .bool det, .bool dat, .bool bare, .bool thin, .int .i64 kind, .int .i64 wh, .string anc, .string arc, .slice an nl nc] (0, 0) _ hP Tryd.underlying27 rfl (by kernel_rfl) ?_))
  have hP2 := hkeepK b2 hP
  have x0 := cell_rowK hP2 0 _ rfl
  have hB2 := bel3K hB b2
  clear hP
  go_wp2_with (first
    | (go_at_call 18; refine (HF.out _ hB2).mono ?_; rintro e w3 ⟨u3, rfl, o3, b3⟩)
    | (refine wpList_load_row rfl _ _ rfl w.heap.size rfl _ #[.int .i64 0, .int .u8 on, .bool vb, .bool up, .bool qu, .bool det, .bool dat, .bool bare, .bool thin, .int .i64 kind, .int .i64 wh, .string anc, .string arc, .slice an nl nc] (0, 0) _ hP2 Tryd.underlying27 rfl (by kernel_rfl) ?_))
  go_ret2
  exact ⟨u3, rfl, OwnT.le o3 hB2.size, bel3K hB2 b3⟩
theorem known_enc (op : UInt8) (h : known op = true) : IntKind.i32.wrap (op.toNat : Int) = (op.toNat : Int) ∧ Utf8.encode (op.toNat : Int) = ⟨#[op]⟩ := by
  have : op = 100 ∨ op = 109 ∨ op = 112 ∨ op = 113 ∨ op = 114 ∨ op = 116 ∨ op = 120 ∨ op = 115 := by
    unfold known isOp at h
    simp only [Bool.or_eq_true, beq_iff_eq] at h
    rcases h with ((((((h | h) | h) | h) | h) | h) | h) | h <;> simp [h]
  rcases this with rfl | rfl | rfl | rfl | rfl | rfl | rfl | rfl <;> exact ⟨by decide, by decide⟩
theorem key_join (c : Cm) (hw : c.wh = 0 ∨ c.wh = 1 ∨ c.wh = 2) : (⟨#[c.op]⟩ : ByteArray) ++ plW c.wh ++ byB (flagsL c) = byB (keyL c) := by
  have e1 : (⟨#[c.op]⟩ : ByteArray) = byB [c.op] := rfl
  have e2 : plW c.wh = byB ((if c.wh = 1 then [97] else []) ++ (if c.wh = 2 then [98] else [])) := by
    unfold plW
    rcases hw with h | h | h <;> rw [h] <;> rfl
  rw [e1, e2, byB_app, byB_app, keyL_flags]
  simp
theorem ar_line (c : Cm) (an : Option Addr) (nl nc : Nat) (w : World) (hp : c.prog = 0) (hk : known c.op = true) (hkd : c.kind = 0 ∨ c.kind = 2) (hw : c.wh = 0 ∨ c.wh = 1 ∨ c.wh = 2) (hR : RowT w (.slice an nl nc) c.nms) (hl : c.nms.length ≤ 16777216) :
    Calls Tryd.prog 18 #[.agg (cmL c (.slice an nl nc)).toArray] w fun e w' => ∃ u, e = .returned u ∧ OwnT w.heap.size w' u (lineW c) ∧ Below w.heap.size w w' := by
  have hj := key_join c hw
  obtain ⟨e1, e2⟩ := known_enc c.op hk
  have hF : (byB (flagsL c)).size ≤ 7 := by rw [byB_size]; exact flN_len _ _ _ _ _ _ _ 7
  have hq : (plW c.wh).size ≤ 1 := by rcases hw with h | h | h <;> rw [h] <;> decide
  have ho : (⟨#[c.op]⟩ : ByteArray).size = 1 := rfl
  have hfl := fun W => flags_c c an nl nc W
  have hpl := fun W => place_ok c.wh W hw
  have hlw : lineW c = wAr :: ((if c.kind = 2 then [wBsd] else []) ++ byB (keyL c) :: ((if c.wh = 0 then [] else [c.anc]) ++ c.arc :: c.nms)) := by
    unfold lineW
    rw [if_neg (by omega)]
  rw [hlw]
  obtain ⟨prog, op, vb, up, qu, det, dat, bare, thin, kind, wh, anc, arc, nms⟩ := c
  dsimp only at hp hkd hw hR hl hj e1 e2 hF hq ho hfl hpl ⊢
  by_cases h0 : wh = 0
  · subst h0
    have hj0 : (⟨#[op]⟩ : ByteArray) ++ (⟨#[]⟩ : ByteArray) ++ byB (flagsL ⟨prog, op, vb, up, qu, det, dat, bare, thin, kind, 0, anc, arc, nms⟩) = byB (keyL ⟨prog, op, vb, up, qu, det, dat, bare, thin, kind, 0, anc, arc, nms⟩) := hj
    rcases hkd with rfl | rfl
    · refine (arLine_0n prog (op.toNat : Int) 0 vb up qu det dat bare thin anc arc an nl nc nms w hR hl ⟨#[op]⟩ ⟨#[]⟩ _ _ (hidK hpl) (hidK hfl) e1 e2 hj0 (by omega) (by omega)).mono ?_
      rintro e w' ⟨u, he, ho, hb⟩
      exact ⟨u, he, by simpa using ho, hb⟩
    · refine (arLine_2n prog (op.toNat : Int) 0 vb up qu det dat bare thin anc arc an nl nc nms w hR hl ⟨#[op]⟩ ⟨#[]⟩ _ _ (hidK hpl) (hidK hfl) e1 e2 hj0 (by omega) (by omega)).mono ?_
      rintro e w' ⟨u, he, ho, hb⟩
      exact ⟨u, he, by simpa using ho, hb⟩
  · have hqe : plW wh ≠ ⟨#[]⟩ := by
      rcases hw with rfl | rfl | rfl
      · exact absurd rfl h0
      · decide
      · decide
    have n1 : ((plW wh).toList == []) = false := beqW hqe rfl
    have n2 : (plW wh).toList.isEmpty = false := by rw [emp15]; exact decide_eq_false fun q => hqe (by rw [← byB_byL (plW wh), q]; rfl)
    rcases hkd with rfl | rfl
    · refine (arLine_0p prog (op.toNat : Int) wh vb up qu det dat bare thin anc arc an nl nc nms w hR hl ⟨#[op]⟩ (plW wh) _ _ (hidK hpl) (hidK hfl) e1 e2 hj (by omega) (by omega) n1 n2).mono ?_
      rintro e w' ⟨u, he, ho, hb⟩
      exact ⟨u, he, by simpa [h0] using ho, hb⟩
    · refine (arLine_2p prog (op.toNat : Int) wh vb up qu det dat bare thin anc arc an nl nc nms w hR hl ⟨#[op]⟩ (plW wh) _ _ (hidK hpl) (hidK hfl) e1 e2 hj (by omega) (by omega) n1 n2).mono ?_
      rintro e w' ⟨u, he, ho, hb⟩
      exact ⟨u, he, by simpa [h0] using ho, hb⟩
theorem ref_parts {c : Cm} (h : refC c = 0) : (c.prog = 0 ∨ c.prog = 1) ∧ known c.op = true ∧ (c.kind = 0 ∨ c.kind = 2) ∧ (c.wh = 0 ∨ c.wh = 1 ∨ c.wh = 2) := by
  unfold refC at h
  by_cases h0 : c.prog ≠ 0 ∧ c.prog ≠ 1
  · rw [if_pos h0] at h; cases h
  rw [if_neg h0] at h
  by_cases h1 : known c.op = false ∨ (c.prog = 1 ∧ c.op ≠ 115)
  · rw [if_pos h1] at h; cases h
  rw [if_neg h1] at h
  by_cases h2 : (c.kind ≠ 0 ∧ c.kind ≠ 2) ∨ c.wh < 0 ∨ 2 < c.wh
  · rw [if_pos h2] at h; cases h
  refine ⟨by omega, ?_, by omega, by omega⟩
  cases hk : known c.op with
  | true => rfl
  | false => exact absurd (.inl hk) h1
theorem Line_ok : LineOk 12 := by
  intro c v w hR hl ht ha hb
  obtain ⟨an, nc, rfl, _⟩ := hR.form
  have hwy := fun W => why_c c an c.nms.length nc W
  unfold lineA
  by_cases h : refC c = 0
  · rw [if_pos h, h]
    rw [h] at hwy
    obtain ⟨hp, hk, hkd, hw⟩ := ref_parts h
    rcases hp with hp | hp
    · have har := fun W (hB : Below w.heap.size w W) => ar_line c an c.nms.length nc W hp hk hkd hw (hR.on hB) hl
      obtain ⟨prog, op, vb, up, qu, det, dat, bare, thin, kind, wh, anc, arc, nms⟩ := c
      dsimp only at hp
      subst hp
      exact line_ar (op.toNat : Int) kind wh vb up qu det dat bare thin anc arc an nms.length nc w _ (hidK har) (hidK hwy)
    · have hrn : ∀ W, Below w.heap.size w W → Calls Tryd.prog 17 #[.agg (cmL c (.slice an c.nms.length nc)).toArray] W fun e w' => ∃ u, e = .returned u ∧ OwnT W.heap.size w' u (lineW c) ∧ Below W.heap.size W w' := by
        intro W hB
        have hlw : lineW c = wRan :: ((if c.det then [wD] else []) ++ c.arc :: c.nms) := by
          unfold lineW
          rw [if_pos hp]
        rw [hlw]
        have hR2 := hR.on hB
        obtain ⟨prog, op, vb, up, qu, det, dat, bare, thin, kind, wh, anc, arc, nms⟩ := c
        cases det with
        | true => exact ranLine_t prog (op.toNat : Int) kind wh vb up qu dat bare thin anc arc an nms.length nc nms W hR2 hl
        | false => exact ranLine_f prog (op.toNat : Int) kind wh vb up qu dat bare thin anc arc an nms.length nc nms W hR2 hl
      obtain ⟨prog, op, vb, up, qu, det, dat, bare, thin, kind, wh, anc, arc, nms⟩ := c
      dsimp only at hp
      subst hp
      exact line_ran (op.toNat : Int) kind wh vb up qu det dat bare thin anc arc an nms.length nc w _ (hidK hrn) (hidK hwy)
  · rw [if_neg h]
    have hr : (refC c != 0) = true := by simp [h]
    obtain ⟨prog, op, vb, up, qu, det, dat, bare, thin, kind, wh, anc, arc, nms⟩ := c
    refine (line_no prog _ (op.toNat : Int) kind wh vb up qu det dat bare thin anc arc an nms.length nc w hr (hidK hwy)).mono ?_
    rintro e w' ⟨rfl, hb9⟩
    exact ⟨_, rfl, ownT_nil _ _, hb9⟩
end Go.Proofs.YtmhamlhmmkbkaaaDoor

-- meant: the command that a line can mean.
namespace Go.Proofs.YtmhamlhmmkbkaaaDoor
open Go.ChangeShapes Go.WideShapes Go.ChangeAt Go.RowKit
set_option linter.unusedVariables false
set_option maxRecDepth 100000
set_option linter.unusedSimpArgs false
set_option maxHeartbeats 32000000 in
theorem meant_arf0 (prog on kind wh : Int) (vb up qu det dat bare thin : Bool) (anc arc : ByteArray) (an : Option Addr) (nl nc : Nat) (nms : List ByteArray) (w : World) (hR : RowT w (.slice an nl nc) nms) (hl : nms.length ≤ 16777216) (hp : (prog == 1) = false) (hk : (kind == 2) = false) (H1 : Hid (∀ W, Calls Tryd.prog 19 #[.int .u8 on, .string ⟨#[100, 109, 112, 113, 114, 115, 116, 120]⟩] W fun e w' => e = .returned (.bool false) ∧ w' = W)) (upB thB quB daB baB mrB : Bool) (HF : Hid (upB = false ∧ thB = false ∧ quB = false ∧ daB = false ∧ baB = false ∧ mrB = false)) (H2 : Hid (∀ W, Calls Tryd.prog 19 #[.int .u8 116, .string ⟨#[114, 113]⟩] W fun e w' => e = .returned (.bool false) ∧ w' = W)) (H3 : Hid (∀ W, Calls Tryd.prog 19 #[.int .u8 116, .string ⟨#[100, 109, 113, 114]⟩] W fun e w' => e = .returned (.bool false) ∧ w' = W)) (H4 : Hid (∀ W, Calls Tryd.prog 19 #[.int .u8 116, .string ⟨#[109, 114]⟩] W fun e w' => e = .returned (.bool false) ∧ w' = W)) (ua ub ancF arcF : ByteArray) (whF : Int) (HUA : Hid (∀ W, Calls Tryd.prog 20 #[.string anc] W fun e w' => e = .returned (.string ua) ∧ w' = W)) (HUB : Hid (∀ W, Calls Tryd.prog 20 #[.string arc] W fun e w' => e = .returned (.string ub) ∧ w' = W)) (HPO : Hid ((mrB = true ∧ (wh = 1 ∨ wh = 2)) → whF = wh ∧ ancF = ua ∧ arcF = arc)) (HNO : Hid (¬ (mrB = true ∧ (wh = 1 ∨ wh = 2)) → whF = 0 ∧ ancF = ⟨#[]⟩ ∧ arcF = ub)) :
    Calls Tryd.prog 13 #[.agg #[.int .i64 prog, .int .u8 on, .bool vb, .bool up, .bool qu, .bool det, .bool dat, .bool bare, .bool thin, .int .i64 kind, .int .i64 wh, .string anc, .string arc, .slice an nl nc]] w fun e w' => ∃ u, e = .returned (.agg #[.int .i64 0, .int .u8 116, .bool vb, .bool upB, .bool quB, .bool det, .bool daB, .bool baB, .bool thB, .int .i64 0, .int .i64 whF, .string ancF, .string arcF, u]) ∧ OwnT w.heap.size w' u nms ∧ Below w.heap.size w w' := by
  obtain ⟨w1, hw1⟩ : ∃ w1, (w.alloc (.cells #[.int .i64 prog, .int .u8 on, .bool vb, .bool up, .bool qu, .bool det, .bool dat, .bool bare, .bool thin, .int .i64 kind, .int .i64 wh, .string anc, .string arc, .slice an nl nc] 27)).alloc (.cells #[.int .i64 0, .int .u8 0, .bool false, .bool false, .bool false, .bool false, .bool false, .bool false, .bool false, .int .i64 0, .int .i64 0, .string ⟨#[]⟩, .string ⟨#[]⟩, .slice none 0 0] 27) = w1 := ⟨_, rfl⟩
  have hPc : w1.heap[w.heap.size]? = some (.cells #[.int .i64 prog, .int .u8 on, .bool vb, .bool up, .bool qu, .bool det, .bool dat, .bool bare, .bool thin, .int .i64 kind, .int .i64 wh, .string anc, .string arc, .slice an nl nc] 27 (0, 0)) := by rw [← hw1]; exact hupK (heap_alloc_new w _) _
  have hPr : w1.heap[w.heap.size + 1]? = some (.cells #[.int .i64 0, .int .u8 0, .bool false, .bool false, .bool false, .bool false, .bool false, .bool false, .bool false, .int .i64 0, .int .i64 0, .string ⟨#[]⟩, .string ⟨#[]⟩, .slice none 0 0] 27 (0, 0)) := by rw [← hw1]; exact heap_new2K w _ _
  have hB1 : Below w.heap.size w w1 := by rw [← hw1]; exact (bupK (Below.refl _ _) _).alloc (by rw [World.size_alloc]; omega) _
  have hsz : w1.heap.size = w.heap.size + 2 := by rw [← hw1, World.size_alloc, World.size_alloc]
  have HPC := hidK hPc
  have HPR := hidK hPr
  have HSZ := hidK hsz
  have HV := hidK hR
  have x1 := cell_rowK hPc 1 _ rfl
  have x2 := cell_rowK hPc 2 _ rfl
  have x5 := cell_rowK hPc 5 _ rfl
  have x12 := cell_rowK hPc 12 _ rfl
  have hPd := heap_alloc_new w1 (.cells #[.int .i64 0, .int .u8 0, .bool false, .bool false, .bool false, .bool false, .bool false, .bool false, .bool false, .int .i64 0, .int .i64 0, .string ⟨#[]⟩, .string ⟨#[]⟩, .slice none 0 0] 27)
  have HB2 : Hid (∀ W, Kq w1.heap.size (w1.alloc (.cells #[.int .i64 0, .int .u8 0, .bool false, .bool false, .bool false, .bool false, .bool false, .bool false, .bool false, .int .i64 0, .int .i64 0, .string ⟨#[]⟩, .string ⟨#[]⟩, .slice none 0 0] 27)) W → Below w1.heap.size w1 W) := fun W q => q.belowN (bupK (Below.refl _ _) _) (Nat.le_refl _) (Nat.le_refl _)
  clear hPc hPr hsz hR
  go_enter Tryd.func13, Tryd.ntmps13
  go_upto_region 1 with fail
  try rw [hw1]
  clear hw1
  go_upto_region 2 with (refine wpList_store_kz rfl rfl _ _ _ rfl w1.heap.size 0 (.agg #[.int .i64 0, .int .u8 on, .bool vb, .bool false, .bool false, .bool det, .bool false, .bool false, .bool false, .int .i64 0, .int .i64 0, .string ⟨#[]⟩, .string arc, .slice none 0 0]) rfl rfl _ _ #[.int .i64 0, .int .u8 on, .bool vb, .bool false, .bool false, .bool det, .bool false, .bool false, .bool false, .int .i64 0, .int .i64 0, .string ⟨#[]⟩, .string arc, .slice none 0 0] hPd (by kernel_rfl) rfl rfl rfl ?_; intro W2 S2 q2)
  have b2 := HB2.out W2 q2
  clear hPd HB2 q2 x1 x2 x5 x12
  have y13 := cell_rowK S2 13 _ rfl
  have x13 := cell_rowK (hkeepK b2 HPC.out) 13 _ rfl
  have hg2 : w1.heap.size < W2.heap.size := (Array.getElem?_eq_some_iff.1 S2).1
  have r2 := (HV.out.on hB1).on b2
  have HS2 := hidK S2
  go_upto_region 3 with (first
    | (refine wpT_all rfl (.tmp 16) (.tmp 18) rfl W2 W2.heap.size (.slice none 0 0) (.slice an nl nc) [] nms rfl rfl (ownT_nil _ _) r2 (by simp) (by omega) (Nat.le_refl _) (Below.refl _ _) ?_; intro v3 w3 o3 b3; obtain ⟨a3, k3, hv3⟩ := OwnT.form o3; rw [hv3] at o3 ⊢; have S3 := hkeepK b3 HS2.out; clear hv3)
    | (refine wpList_store_kz rfl rfl _ _ _ rfl w1.heap.size 13 (.slice a3 ([] ++ nms).length k3) rfl rfl _ _ #[.int .i64 0, .int .u8 on, .bool vb, .bool false, .bool false, .bool det, .bool false, .bool false, .bool false, .int .i64 0, .int .i64 0, .string ⟨#[]⟩, .string arc, .slice a3 ([] ++ nms).length k3] S3 (by kernel_rfl) rfl rfl rfl ?_; intro W4 S4 q4))
  obtain ⟨n3, hn3⟩ : ∃ n3, n3 = nms.length := ⟨_, rfl⟩
  have o4 : OwnT W2.heap.size W4 (.slice a3 n3 k3) nms := by
    rw [hn3]
    exact own_kqK (t := 27) o3 q4 (hkeepK b3 HS2.out) (by decide)
  have S4 : W4.heap[w1.heap.size]? = some (.cells #[.int .i64 0, .int .u8 on, .bool vb, .bool false, .bool false, .bool det, .bool false, .bool false, .bool false, .int .i64 0, .int .i64 0, .string ⟨#[]⟩, .string arc, .slice a3 n3 k3] 27 (0, 0)) := by rw [hn3]; exact S4
  have b4 : Below w1.heap.size w1 W4 := q4.belowN (bel3K b2 b3) (Nat.le_refl _) (Nat.le_refl _)
  have HO4 := hidK o4
  have HS40 := hidK S4
  have HB4 := hidK b4
  have HPC4 := hidK (hkeepK b4 HPC.out)
  have HPR4 := hidK (hkeepK b4 HPR.out)
  have hg4 : W2.heap.size ≤ W4.heap.size := Nat.le_trans b3.size q4.size
  have z1 := cell_rowK HPC4.out 1 _ rfl
  clear o3 b3 S3 q4 r2 x13 y13 b2 HS2 o4 b4 hn3
  go_upto_region 4 with (go_at_call 19; refine (H1.out _).mono ?_; rintro e w9 ⟨rfl, hw9⟩; rw [hw9]; clear hw9)
  go_upto_region 6 with (refine wpList_store_kz rfl rfl _ _ _ rfl w1.heap.size 1 (.int .u8 116) rfl rfl _ _ #[.int .i64 0, .int .u8 116, .bool vb, .bool false, .bool false, .bool det, .bool false, .bool false, .bool false, .int .i64 0, .int .i64 0, .string ⟨#[]⟩, .string arc, .slice a3 n3 k3] S4 (by kernel_rfl) rfl rfl rfl ?_; intro W6 S6 q6)
  have HS5 := hidK S6
  have HQ5 := hidK q6
  clear z1 S4 S6 q6 H1
  have c0 := cell_rowK (HQ5.out.keeps (by have := HSZ.out; omega) HPC4.out) 0 _ rfl
  have c9 := cell_rowK (HQ5.out.keeps (by have := HSZ.out; omega) HPC4.out) 9 _ rfl
  go_upto_region 10 with fail
  have HSa := HS5
  have HQa := HQ5
  clear c0 c9
  have d1 := cell_rowK HSa.out 1 _ rfl
  go_upto_region 11 with (go_at_call 19; refine (H2.out _).mono ?_; rintro e w9 ⟨rfl, hw9⟩; rw [hw9]; clear hw9)
  clear d1 HS5 HQ5 H2
  go_cut [] from 45 to 57 (fun wx => Hid (wx.heap[w1.heap.size]? = some (.cells #[.int .i64 0, .int .u8 116, .bool vb, .bool upB, .bool false, .bool det, .bool false, .bool false, .bool false, .int .i64 0, .int .i64 0, .string ⟨#[]⟩, .string arc, .slice a3 n3 k3] 27 (0, 0))) ∧ Hid (Kq w1.heap.size W4 wx))
  case first =>
    have c3 := cell_rowK (HQa.out.keeps (by have := HSZ.out; omega) HPC4.out) 3 _ rfl
    have d1 := cell_rowK HSa.out 1 _ rfl
    have d5 := cell_rowK HSa.out 5 _ rfl
    cases up with
    | false =>
      have eB : upB = false := HF.out.1
      go_wp2_with (refine wpList_store_kz rfl rfl _ _ _ rfl w1.heap.size 3 (.bool false) rfl rfl _ _ #[.int .i64 0, .int .u8 116, .bool vb, .bool false, .bool false, .bool det, .bool false, .bool false, .bool false, .int .i64 0, .int .i64 0, .string ⟨#[]⟩, .string arc, .slice a3 n3 k3] HSa.out (by kernel_rfl) rfl rfl rfl ?_; intro W9 S9 q9)
      go_meet
      case rel => exact ⟨by rw [eB]; exact S9, HQa.out.two q9⟩
    | true =>
      have eB : upB = false := HF.out.1
      go_wp2_with (refine wpList_store_kz rfl rfl _ _ _ rfl w1.heap.size 3 (.bool false) rfl rfl _ _ #[.int .i64 0, .int .u8 116, .bool vb, .bool false, .bool false, .bool det, .bool false, .bool false, .bool false, .int .i64 0, .int .i64 0, .string ⟨#[]⟩, .string arc, .slice a3 n3 k3] HSa.out (by kernel_rfl) rfl rfl rfl ?_; intro W9 S9 q9)
      go_meet
      case rel => exact ⟨by rw [eB]; exact S9, HQa.out.two q9⟩
  case rest =>
  obtain ⟨HS11, HQ11⟩ := hcut
  clear HSa HQa
  go_upto_region 12 with fail
  go_cut [] from 58 to 68 (fun wx => Hid (wx.heap[w1.heap.size]? = some (.cells #[.int .i64 0, .int .u8 116, .bool vb, .bool upB, .bool false, .bool det, .bool false, .bool false, .bool thB, .int .i64 0, .int .i64 0, .string ⟨#[]⟩, .string arc, .slice a3 n3 k3] 27 (0, 0))) ∧ Hid (Kq w1.heap.size W4 wx))
  case first =>
    have c8 := cell_rowK (HQ11.out.keeps (by have := HSZ.out; omega) HPC4.out) 8 _ rfl
    have d9 := cell_rowK HS11.out 9 _ rfl
    cases thin with
    | false =>
      have eB : thB = false := HF.out.2.1
      go_wp2_with (refine wpList_store_kz rfl rfl _ _ _ rfl w1.heap.size 8 (.bool false) rfl rfl _ _ #[.int .i64 0, .int .u8 116, .bool vb, .bool upB, .bool false, .bool det, .bool false, .bool false, .bool false, .int .i64 0, .int .i64 0, .string ⟨#[]⟩, .string arc, .slice a3 n3 k3] HS11.out (by kernel_rfl) rfl rfl rfl ?_; intro W9 S9 q9)
      go_meet
      case rel => exact ⟨by rw [eB]; exact S9, HQ11.out.two q9⟩
    | true =>
      have eB : thB = false := HF.out.2.1
      go_wp2_with (refine wpList_store_kz rfl rfl _ _ _ rfl w1.heap.size 8 (.bool false) rfl rfl _ _ #[.int .i64 0, .int .u8 116, .bool vb, .bool upB, .bool false, .bool det, .bool false, .bool false, .bool false, .int .i64 0, .int .i64 0, .string ⟨#[]⟩, .string arc, .slice a3 n3 k3] HS11.out (by kernel_rfl) rfl rfl rfl ?_; intro W9 S9 q9)
      go_meet
      case rel => exact ⟨by rw [eB]; exact S9, HQ11.out.two q9⟩
  case rest =>
  obtain ⟨HS12, HQ12⟩ := hcut
  clear HS11 HQ11
  go_upto_region 13 with fail
  go_cut [] from 69 to 74 (fun wx => Hid (wx.heap[w1.heap.size]? = some (.cells #[.int .i64 0, .int .u8 116, .bool vb, .bool upB, .bool quB, .bool det, .bool false, .bool false, .bool thB, .int .i64 0, .int .i64 0, .string ⟨#[]⟩, .string arc, .slice a3 n3 k3] 27 (0, 0))) ∧ Hid (Kq w1.heap.size W4 wx))
  case first =>
    have c4 := cell_rowK (HQ12.out.keeps (by have := HSZ.out; omega) HPC4.out) 4 _ rfl
    cases qu with
    | false =>
      have eB : quB = false := HF.out.2.2.1
      go_wp2_with (refine wpList_store_kz rfl rfl _ _ _ rfl w1.heap.size 4 (.bool false) rfl rfl _ _ #[.int .i64 0, .int .u8 116, .bool vb, .bool upB, .bool false, .bool det, .bool false, .bool false, .bool thB, .int .i64 0, .int .i64 0, .string ⟨#[]⟩, .string arc, .slice a3 n3 k3] HS12.out (by kernel_rfl) rfl rfl rfl ?_; intro W9 S9 q9)
      go_meet
      case rel => exact ⟨by rw [eB]; exact S9, HQ12.out.two q9⟩
    | true =>
      have eB : quB = false := HF.out.2.2.1
      go_wp2_with (refine wpList_store_kz rfl rfl _ _ _ rfl w1.heap.size 4 (.bool false) rfl rfl _ _ #[.int .i64 0, .int .u8 116, .bool vb, .bool upB, .bool false, .bool det, .bool false, .bool false, .bool thB, .int .i64 0, .int .i64 0, .string ⟨#[]⟩, .string arc, .slice a3 n3 k3] HS12.out (by kernel_rfl) rfl rfl rfl ?_; intro W9 S9 q9)
      go_meet
      case rel => exact ⟨by rw [eB]; exact S9, HQ12.out.two q9⟩
  case rest =>
  obtain ⟨HS13, HQ13⟩ := hcut
  clear HS12 HQ12
  go_upto_region 14 with fail
  go_cut [] from 75 to 82 (fun wx => Hid (wx.heap[w1.heap.size]? = some (.cells #[.int .i64 0, .int .u8 116, .bool vb, .bool upB, .bool quB, .bool det, .bool daB, .bool false, .bool thB, .int .i64 0, .int .i64 0, .string ⟨#[]⟩, .string arc, .slice a3 n3 k3] 27 (0, 0))) ∧ Hid (Kq w1.heap.size W4 wx))
  case first =>
    have c6 := cell_rowK (HQ13.out.keeps (by have := HSZ.out; omega) HPC4.out) 6 _ rfl
    have d1 := cell_rowK HS13.out 1 _ rfl
    cases dat with
    | false =>
      have eB : daB = false := HF.out.2.2.2.1
      go_wp2_with (refine wpList_store_kz rfl rfl _ _ _ rfl w1.heap.size 6 (.bool false) rfl rfl _ _ #[.int .i64 0, .int .u8 116, .bool vb, .bool upB, .bool quB, .bool det, .bool false, .bool false, .bool thB, .int .i64 0, .int .i64 0, .string ⟨#[]⟩, .string arc, .slice a3 n3 k3] HS13.out (by kernel_rfl) rfl rfl rfl ?_; intro W9 S9 q9)
      go_meet
      case rel => exact ⟨by rw [eB]; exact S9, HQ13.out.two q9⟩
    | true =>
      have eB : daB = false := HF.out.2.2.2.1
      go_wp2_with (refine wpList_store_kz rfl rfl _ _ _ rfl w1.heap.size 6 (.bool false) rfl rfl _ _ #[.int .i64 0, .int .u8 116, .bool vb, .bool upB, .bool quB, .bool det, .bool false, .bool false, .bool thB, .int .i64 0, .int .i64 0, .string ⟨#[]⟩, .string arc, .slice a3 n3 k3] HS13.out (by kernel_rfl) rfl rfl rfl ?_; intro W9 S9 q9)
      go_meet
      case rel => exact ⟨by rw [eB]; exact S9, HQ13.out.two q9⟩
  case rest =>
  obtain ⟨HS14, HQ14⟩ := hcut
  clear HS13 HQ13
  go_upto_region 15 with fail
  go_cut [] from 83 to 90 (fun wx => Hid (wx.heap[w1.heap.size]? = some (.cells #[.int .i64 0, .int .u8 116, .bool vb, .bool upB, .bool quB, .bool det, .bool daB, .bool baB, .bool thB, .int .i64 0, .int .i64 0, .string ⟨#[]⟩, .string arc, .slice a3 n3 k3] 27 (0, 0))) ∧ Hid (Kq w1.heap.size W4 wx))
  case first =>
    have c7 := cell_rowK (HQ14.out.keeps (by have := HSZ.out; omega) HPC4.out) 7 _ rfl
    have d1 := cell_rowK HS14.out 1 _ rfl
    cases bare with
    | false =>
      have eB : baB = false := HF.out.2.2.2.2.1
      go_wp2_with (refine wpList_store_kz rfl rfl _ _ _ rfl w1.heap.size 7 (.bool false) rfl rfl _ _ #[.int .i64 0, .int .u8 116, .bool vb, .bool upB, .bool quB, .bool det, .bool daB, .bool false, .bool thB, .int .i64 0, .int .i64 0, .string ⟨#[]⟩, .string arc, .slice a3 n3 k3] HS14.out (by kernel_rfl) rfl rfl rfl ?_; intro W9 S9 q9)
      go_meet
      case rel => exact ⟨by rw [eB]; exact S9, HQ14.out.two q9⟩
    | true =>
      have eB : baB = false := HF.out.2.2.2.2.1
      go_wp2_with (first | (go_at_call 19; refine (H3.out _).mono ?_; rintro e w9 ⟨rfl, hw9⟩; rw [hw9]; clear hw9) | (refine wpList_store_kz rfl rfl _ _ _ rfl w1.heap.size 7 (.bool false) rfl rfl _ _ #[.int .i64 0, .int .u8 116, .bool vb, .bool upB, .bool quB, .bool det, .bool daB, .bool false, .bool thB, .int .i64 0, .int .i64 0, .string ⟨#[]⟩, .string arc, .slice a3 n3 k3] HS14.out (by kernel_rfl) rfl rfl rfl ?_; intro W9 S9 q9))
      go_meet
      case rel => exact ⟨by rw [eB]; exact S9, HQ14.out.two q9⟩
  case rest =>
  obtain ⟨HS15, HQ15⟩ := hcut
  clear HS14 HQ14
  have d1 := cell_rowK HS15.out 1 _ rfl
  have c10 := cell_rowK (HQ15.out.keeps (by have := HSZ.out; omega) HPC4.out) 10 _ rfl
  have c12 := cell_rowK (HQ15.out.keeps (by have := HSZ.out; omega) HPC4.out) 12 _ rfl
  have HR9 := hidK (HQ15.out.keeps (by have := HSZ.out; omega) HPR4.out)
  have hmr := HF.out.2.2.2.2.2
  obtain ⟨e1, e2, e3⟩ := HNO.out (fun q => by rw [hmr] at q; cases q.1)
  have E1 := hidK e1
  have E2 := hidK e2
  have E3 := hidK e3
  clear HPO HNO e1 e2 e3 hmr
  go_upto_region 18 with (go_at_call 19; refine (H4.out _).mono ?_; rintro e w9 ⟨rfl, hw9⟩; rw [hw9]; clear hw9)
  go_upto_region 19 with (first
    | (go_at_call 20; refine (HUB.out _).mono ?_; rintro e w9 ⟨rfl, hw9⟩; rw [hw9]; clear hw9)
    | (refine wpList_store_kz rfl rfl _ _ _ rfl w1.heap.size 12 (.string ub) rfl rfl _ _ #[.int .i64 0, .int .u8 116, .bool vb, .bool upB, .bool quB, .bool det, .bool daB, .bool baB, .bool thB, .int .i64 0, .int .i64 0, .string ⟨#[]⟩, .string ub, .slice a3 n3 k3] HS15.out (by kernel_rfl) rfl rfl rfl ?_; intro W11 S11 q11))
  have HR11 := q11.keeps (by have := HSZ.out; omega) HR9.out
  clear c10 c12 d1
  go_wp2_with (first
    | (refine wpList_load_row rfl _ _ rfl w1.heap.size rfl _ #[.int .i64 0, .int .u8 116, .bool vb, .bool upB, .bool quB, .bool det, .bool daB, .bool baB, .bool thB, .int .i64 0, .int .i64 0, .string ⟨#[]⟩, .string ub, .slice a3 n3 k3] (0, 0) _ S11 Tryd.underlying27 rfl (by kernel_rfl) ?_)
    | (refine wpList_store_kz rfl rfl _ _ _ rfl (w.heap.size + 1) 0 (.agg #[.int .i64 0, .int .u8 116, .bool vb, .bool upB, .bool quB, .bool det, .bool daB, .bool baB, .bool thB, .int .i64 0, .int .i64 0, .string ⟨#[]⟩, .string ub, .slice a3 n3 k3]) rfl rfl _ _ #[.int .i64 0, .int .u8 116, .bool vb, .bool upB, .bool quB, .bool det, .bool daB, .bool baB, .bool thB, .int .i64 0, .int .i64 0, .string ⟨#[]⟩, .string ub, .slice a3 n3 k3] HR11 (by kernel_rfl) rfl rfl rfl ?_; intro W12 S12 q12))
  refine bodyPost_ret (results_cell15 rfl _ _ (w.heap.size + 1) _ _ _ _ rfl S12 Tryd.underlying27 rfl sizeCm) rfl ?_
  refine ⟨.slice a3 n3 k3, ?_, ?_, ?_⟩
  · rw [E1.out, E2.out, E3.out]
  · exact OwnT.le (own_kqK (t := 27) (own_kqK (t := 27) (own_kqK (t := 27) HO4.out HQ15.out HS40.out (by decide)) q11 HS15.out (by decide)) q12 (q11.keeps (by have := HSZ.out; omega) HR9.out) (by decide)) (Nat.le_trans hB1.size (Nat.le_of_lt hg2))
  · exact q12.belowN (q11.belowN (HQ15.out.belowN (hB1.trans (HB4.out.mono hB1.size)) hB1.size (Nat.le_refl _)) hB1.size (Nat.le_refl _)) (by omega) (Nat.le_refl _)
end Go.Proofs.YtmhamlhmmkbkaaaDoor
