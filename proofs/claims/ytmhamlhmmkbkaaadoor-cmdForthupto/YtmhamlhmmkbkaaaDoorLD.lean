
-- Line.
import Derived.Test.YtmhamlhmmkbkaaaDoorLY
import Derived.Test.YtmhamlhmmkbkaaaDoorLZ
namespace Go.Proofs.YtmhamlhmmkbkaaaDoor
open Go.ChangeShapes Go.WideShapes Go.ChangeAt Go.RowKit
set_option linter.unusedVariables false
set_option maxRecDepth 100000
set_option linter.unusedSimpArgs false
set_option maxHeartbeats 4000000 in
theorem line_no (prog : Int) (r : Int) (on kind wh : Int) (vb up qu det dat bare thin : Bool) (anc arc : ByteArray) (an : Option Addr) (nl nc : Nat) (w : World) (hr : (r != 0) = true) (HWY : Hid (∀ W, Calls Tryd.prog 16 #[.agg #[.int .i64 prog, .int .u8 on, .bool vb, .bool up, .bool qu, .bool det, .bool dat, .bool bare, .bool thin, .int .i64 kind, .int .i64 wh, .string anc, .string arc, .slice an nl nc]] W fun e w' => e = .returned (.int .i64 r) ∧ Below W.heap.size W w')) :
    Calls Tryd.prog 12 #[.agg #[.int .i64 prog, .int .u8 on, .bool vb, .bool up, .bool qu, .bool det, .bool dat, .bool bare, .bool thin, .int .i64 kind, .int .i64 wh, .string anc, .string arc, .slice an nl nc]] w fun e w' => e = .returned (.tuple #[.slice none 0 0, .int .i64 r]) ∧ Below w.heap.size w w' := by
  obtain ⟨w1, hw1⟩ : ∃ w1, w.alloc (.cells #[.int .i64 prog, .int .u8 on, .bool vb, .bool up, .bool qu, .bool det, .bool dat, .bool bare, .bool thin, .int .i64 kind, .int .i64 wh, .string anc, .string arc, .slice an nl nc] 27) = w1 := ⟨_, rfl⟩
  have hP := heap_alloc_new w (.cells #[.int .i64 prog, .int .u8 on, .bool vb, .bool up, .bool qu, .bool det, .bool dat, .bool bare, .bool thin, .int .i64 kind, .int .i64 wh, .string anc, .string arc, .slice an nl nc] 27)
  have hB : Below w.heap.size w w1 := by rw [← hw1]; exact bupK (Below.refl _ _) _
  rw [hw1] at hP
  go_enter Tryd.func12, Tryd.ntmps12
  go_upto_region 1 with fail
  try rw [hw1]
  clear hw1
  go_wp2_with (first
    | (go_at_call 16; refine (HWY.out _).mono ?_; rintro e w2 ⟨rfl, b2⟩)
    | (refine wpList_load_row rfl _ _ rfl w.heap.size rfl _ #[.int .i64 prog, .int .u8 on, .bool vb, .bool up, .bool qu, .bool det, .bool dat, .bool bare, .bool thin, .int .i64 kind, .int .i64 wh, .string anc, .string arc, .slice an nl nc] (0, 0) _ hP Tryd.underlying27 rfl (by kernel_rfl) ?_))
  go_ret2
  exact ⟨rfl, bel3K hB b2⟩
set_option maxHeartbeats 4000000 in
theorem line_ran (on kind wh : Int) (vb up qu det dat bare thin : Bool) (anc arc : ByteArray) (an : Option Addr) (nl nc : Nat) (w : World) (R : List ByteArray) (HF : Hid (∀ W, Below w.heap.size w W → Calls Tryd.prog 17 #[.agg #[.int .i64 1, .int .u8 on, .bool vb, .bool up, .bool qu, .bool det, .bool dat, .bool bare, .bool thin, .int .i64 kind, .int .i64 wh, .string anc, .string arc, .slice an nl nc]] W fun e w' => ∃ u, e = .returned u ∧ OwnT W.heap.size w' u R ∧ Below W.heap.size W w')) (HWY : Hid (∀ W, Calls Tryd.prog 16 #[.agg #[.int .i64 1, .int .u8 on, .bool vb, .bool up, .bool qu, .bool det, .bool dat, .bool bare, .bool thin, .int .i64 kind, .int .i64 wh, .string anc, .string arc, .slice an nl nc]] W fun e w' => e = .returned (.int .i64 0) ∧ Below W.heap.size W w')) :
    Calls Tryd.prog 12 #[.agg #[.int .i64 1, .int .u8 on, .bool vb, .bool up, .bool qu, .bool det, .bool dat, .bool bare, .bool thin, .int .i64 kind, .int .i64 wh, .string anc, .string arc, .slice an nl nc]] w fun e w' => ∃ u, e = .returned (.tuple #[u, .int .i64 0]) ∧ OwnT w.heap.size w' u R ∧ Below w.heap.size w w' := by
  obtain ⟨w1, hw1⟩ : ∃ w1, w.alloc (.cells #[.int .i64 1, .int .u8 on, .bool vb, .bool up, .bool qu, .bool det, .bool dat, .bool bare, .bool thin, .int .i64 kind, .int .i64 wh, .string anc, .string arc, .slice an nl nc] 27) = w1 := ⟨_, rfl⟩
  have hP := heap_alloc_new w (.cells #[.int .i64 1, .int .u8 on, .bool vb, .bool up, .bool qu, .bool det, .bool dat, .bool bare, .bool thin, .int .i64 kind, .int .i64 wh, .string anc, .string arc, .slice an nl nc] 27)
  have hB : Below w.heap.size w w1 := by rw [← hw1]; exact bupK (Below.refl _ _) _
  rw [hw1] at hP
  go_enter Tryd.func12, Tryd.ntmps12
  go_upto_region 1 with fail
  try rw [hw1]
  clear hw1
  go_upto_region 2 with (first
    | (go_at_call 16; refine (HWY.out _).mono ?_; rintro e w2 ⟨rfl, b2⟩)
    | (refine wpList_load_row rfl _ _ rfl w.heap.size rfl _ #[.int .i64 1, .int .u8 on, .bool vb, .bool up, .bool qu, .bool det, .bool dat, .bool bare, .bool thin, .int .i64 kind, .int .i64 wh, .string anc, .string arc, .slice an nl nc] (0, 0) _ hP Tryd.underlying27 rfl (by kernel_rfl) ?_))
  have hP2 := hkeepK b2 hP
  have x0 := cell_rowK hP2 0 _ rfl
  have hB2 := bel3K hB b2
  clear hP
  go_wp2_with (first
    | (go_at_call 17; refine (HF.out _ hB2).mono ?_; rintro e w3 ⟨u3, rfl, o3, b3⟩)
    | (refine wpList_load_row rfl _ _ rfl w.heap.size rfl _ #[.int .i64 1, .int .u8 on, .bool vb, .bool up, .bool qu, .bool det, .bool dat, .bool bare, .bool thin, .int .i64 kind, .int .i64 wh, .string anc, .string arc, .slice an nl nc] (0, 0) _ hP2 Tryd.underlying27 rfl (by kernel_rfl) ?_))
  go_ret2
  exact ⟨u3, rfl, OwnT.le o3 hB2.size, bel3K hB2 b3⟩
set_option maxHeartbeats 4000000 in
theorem line_ar (on kind wh : Int) (vb up qu det dat bare thin : Bool) (anc arc : ByteArray) (an : Option Addr) (nl nc : Nat) (w : World) (R : List ByteArray) (HF : Hid (∀ W, Below w.heap.size w W → Calls Tryd.prog 18 #[.agg #[.int .i64 0, .int .u8 on, .bool vb, .bool up, .bool qu, .bool det, .bool dat, .bool bare, .bool thin, .int .i64 kind, .int .i64 wh, .string anc, .string arc, .slice an nl nc]] W fun e w' => ∃ u, e = .returned u ∧ OwnT W.heap.size w' u R ∧ Below W.heap.size W w')) (HWY : Hid (∀ W, Calls Tryd.prog 16 #[.agg #[.int .i64 0, .int .u8 on, .bool vb, .bool up, .bool qu, .bool det, .bool dat, .bool bare, .bool thin, .int .i64 kind, .int .i64 wh, .string anc, .string arc, .slice an nl nc]] W fun e w' => e = .returned (.int .i64 0) ∧ Below W.heap.size W w')) :
    Calls Tryd.prog 12 #[.agg #[.int .i64 0, .int .u8 on, .bool vb, .bool up, .bool qu, .bool det, .bool dat, .bool bare, .bool thin, .int .i64 kind, .int .i64 wh, .string anc, .string arc, .slice an nl nc]] w fun e w' => ∃ u, e = .returned (.tuple #[u, .int .i64 0]) ∧ OwnT w.heap.size w' u R ∧ Below w.heap.size w w' := by
  obtain ⟨w1, hw1⟩ : ∃ w1, w.alloc (.cells #[.int .i64 0, .int .u8 on, .bool vb, .bool up, .bool qu, .bool det, .bool dat, .bool bare, .bool thin, .int .i64 kind, .int .i64 wh, .string anc, .string arc, .slice an nl nc] 27) = w1 := ⟨_, rfl⟩
  have hP := heap_alloc_new w (.cells #[.int .i64 0, .int .u8 on, .bool vb, .bool up, .bool qu, .bool det, .bool dat, .bool bare, .bool thin, .int .i64 kind, .int .i64 wh, .string anc, .string arc, .slice an nl nc] 27)
  have hB : Below w.heap.size w w1 := by rw [← hw1]; exact bupK (Below.refl _ _) _
  rw [hw1] at hP
  go_enter Tryd.func12, Tryd.ntmps12
  go_upto_region 1 with fail
  try rw [hw1]
  clear hw1
  go_upto_region 2 with (first
    | (go_at_call 16; refine (HWY.out _).mono ?_; rintro e w2 ⟨rfl, b2⟩)
    | (refine wpList_load_row rfl _ _ rfl w.heap.size rfl _ #[.int .i64 0, .int .u8 on, .bool vb, .bool up, .bool qu, .bool det, .bool dat, .bool bare, .bool thin, .int .i64 kind, .int .i64 wh, .string anc, .string arc, .slice an nl nc] (0, 0) _ hP Tryd.underlying27 rfl (by kernel_rfl) ?_))
  have hP2 := hkeepK b2 hP
  have x0 := cell_rowK hP2 0 _ rfl
  have hB2 := bel3K hB b2
  clear hP
  go_wp2_with (first
    | (go_at_call 18; refine (HF.out _ hB2).mono ?_; rintro e w3 ⟨u3, rfl, o3, b3⟩)
    | (refine wpList_load_row rfl _ _ rfl w.heap.size rfl _ #[.int .i64 0, .int .u8 on, .bool vb, .bool up, .bool qu, .bool det, .bool dat, .bool bare, .bool thin, .int .i64 kind, .int .i64 wh, .string anc, .string arc, .slice an nl nc] (0, 0) _ hP2 Tryd.underlying27 rfl (by kernel_rfl) ?_))
  go_ret2
  exact ⟨u3, rfl, OwnT.le o3 hB2.size, bel3K hB2 b3⟩
theorem known_enc (op : UInt8) (h : known op = true) : IntKind.i32.wrap (op.toNat : Int) = (op.toNat : Int) ∧ Utf8.encode (op.toNat : Int) = ⟨#[op]⟩ := by
  have : op = 100 ∨ op = 109 ∨ op = 112 ∨ op = 113 ∨ op = 114 ∨ op = 116 ∨ op = 120 ∨ op = 115 := by
    unfold known isOp at h
    simp only [Bool.or_eq_true, beq_iff_eq] at h
    rcases h with ((((((h | h) | h) | h) | h) | h) | h) | h <;> simp [h]
  rcases this with rfl | rfl | rfl | rfl | rfl | rfl | rfl | rfl <;> exact ⟨by decide, by decide⟩
theorem key_join (c : Cm) (hw : c.wh = 0 ∨ c.wh = 1 ∨ c.wh = 2) : (⟨#[c.op]⟩ : ByteArray) ++ plW c.wh ++ byB (flagsL c) = byB (keyL c) := by
  have e1 : (⟨#[c.op]⟩ : ByteArray) = byB [c.op] := rfl
  have e2 : plW c.wh = byB ((if c.wh = 1 then [97] else []) ++ (if c.wh = 2 then [98] else [])) := by
    unfold plW
    rcases hw with h | h | h <;> rw [h] <;> rfl
  rw [e1, e2, byB_app, byB_app, keyL_flags]
  simp
theorem ar_line (c : Cm) (an : Option Addr) (nl nc : Nat) (w : World) (hp : c.prog = 0) (hk : known c.op = true) (hkd : c.kind = 0 ∨ c.kind = 2) (hw : c.wh = 0 ∨ c.wh = 1 ∨ c.wh = 2) (hR : RowT w (.slice an nl nc) c.nms) (hl : c.nms.length ≤ 16777216) :
    Calls Tryd.prog 18 #[.agg (cmL c (.slice an nl nc)).toArray] w fun e w' => ∃ u, e = .returned u ∧ OwnT w.heap.size w' u (lineW c) ∧ Below w.heap.size w w' := by
  have hj := key_join c hw
  obtain ⟨e1, e2⟩ := known_enc c.op hk
  have hF : (byB (flagsL c)).size ≤ 7 := by rw [byB_size]; exact flN_len _ _ _ _ _ _ _ 7
  have hq : (plW c.wh).size ≤ 1 := by rcases hw with h | h | h <;> rw [h] <;> decide
  have ho : (⟨#[c.op]⟩ : ByteArray).size = 1 := rfl
  have hfl := fun W => flags_c c an nl nc W
  have hpl := fun W => place_ok c.wh W hw
  have hlw : lineW c = wAr :: ((if c.kind = 2 then [wBsd] else []) ++ byB (keyL c) :: ((if c.wh = 0 then [] else [c.anc]) ++ c.arc :: c.nms)) := by
    unfold lineW
    rw [if_neg (by omega)]
  rw [hlw]
  obtain ⟨prog, op, vb, up, qu, det, dat, bare, thin, kind, wh, anc, arc, nms⟩ := c
  dsimp only at hp hkd hw hR hl hj e1 e2 hF hq ho hfl hpl ⊢
  by_cases h0 : wh = 0
  · subst h0
    have hj0 : (⟨#[op]⟩ : ByteArray) ++ (⟨#[]⟩ : ByteArray) ++ byB (flagsL ⟨prog, op, vb, up, qu, det, dat, bare, thin, kind, 0, anc, arc, nms⟩) = byB (keyL ⟨prog, op, vb, up, qu, det, dat, bare, thin, kind, 0, anc, arc, nms⟩) := hj
    rcases hkd with rfl | rfl
    · refine (arLine_0n prog (op.toNat : Int) 0 vb up qu det dat bare thin anc arc an nl nc nms w hR hl ⟨#[op]⟩ ⟨#[]⟩ _ _ (hidK hpl) (hidK hfl) e1 e2 hj0 (by omega) (by omega)).mono ?_
      rintro e w' ⟨u, he, ho, hb⟩
      exact ⟨u, he, by simpa using ho, hb⟩
    · refine (arLine_2n prog (op.toNat : Int) 0 vb up qu det dat bare thin anc arc an nl nc nms w hR hl ⟨#[op]⟩ ⟨#[]⟩ _ _ (hidK hpl) (hidK hfl) e1 e2 hj0 (by omega) (by omega)).mono ?_
      rintro e w' ⟨u, he, ho, hb⟩
      exact ⟨u, he, by simpa using ho, hb⟩
  · have hqe : plW wh ≠ ⟨#[]⟩ := by
      rcases hw with rfl | rfl | rfl
      · exact absurd rfl h0
      · decide
      · decide
    have n1 : ((plW wh).toList == []) = false := beqW hqe rfl
    have n2 : (plW wh).toList.isEmpty = false := by rw [emp15]; exact decide_eq_false fun q => hqe (by rw [← byB_byL (plW wh), q]; rfl)
    rcases hkd with rfl | rfl
    · refine (arLine_0p prog (op.toNat : Int) wh vb up qu det dat bare thin anc arc an nl nc nms w hR hl ⟨#[op]⟩ (plW wh) _ _ (hidK hpl) (hidK hfl) e1 e2 hj (by omega) (by omega) n1 n2).mono ?_
      rintro e w' ⟨u, he, ho, hb⟩
      exact ⟨u, he, by simpa [h0] using ho, hb⟩
    · refine (arLine_2p prog (op.toNat : Int) wh vb up qu det dat bare thin anc arc an nl nc nms w hR hl ⟨#[op]⟩ (plW wh) _ _ (hidK hpl) (hidK hfl) e1 e2 hj (by omega) (by omega) n1 n2).mono ?_
      rintro e w' ⟨u, he, ho, hb⟩
      exact ⟨u, he, by simpa [h0] using ho, hb⟩
theorem ref_parts {c : Cm} (h : refC c = 0) : (c.prog = 0 ∨ c.prog = 1) ∧ known c.op = true ∧ (c.kind = 0 ∨ c.kind = 2) ∧ (c.wh = 0 ∨ c.wh = 1 ∨ c.wh = 2) := by
  unfold refC at h
  by_cases h0 : c.prog ≠ 0 ∧ c.prog ≠ 1
  · rw [if_pos h0] at h; cases h
  rw [if_neg h0] at h
  by_cases h1 : known c.op = false ∨ (c.prog = 1 ∧ c.op ≠ 115)
  · rw [if_pos h1] at h; cases h
  rw [if_neg h1] at h
  by_cases h2 : (c.kind ≠ 0 ∧ c.kind ≠ 2) ∨ c.wh < 0 ∨ 2 < c.wh
  · rw [if_pos h2] at h; cases h
  refine ⟨by omega, ?_, by omega, by omega⟩
  cases hk : known c.op with
  | true => rfl
  | false => exact absurd (.inl hk) h1
theorem Line_ok : LineOk 12 := by
  intro c v w hR hl ht ha hb
  obtain ⟨an, nc, rfl, _⟩ := hR.form
  have hwy := fun W => why_c c an c.nms.length nc W
  unfold lineA
  by_cases h : refC c = 0
  · rw [if_pos h, h]
    rw [h] at hwy
    obtain ⟨hp, hk, hkd, hw⟩ := ref_parts h
    rcases hp with hp | hp
    · have har := fun W (hB : Below w.heap.size w W) => ar_line c an c.nms.length nc W hp hk hkd hw (hR.on hB) hl
      obtain ⟨prog, op, vb, up, qu, det, dat, bare, thin, kind, wh, anc, arc, nms⟩ := c
      dsimp only at hp
      subst hp
      exact line_ar (op.toNat : Int) kind wh vb up qu det dat bare thin anc arc an nms.length nc w _ (hidK har) (hidK hwy)
    · have hrn : ∀ W, Below w.heap.size w W → Calls Tryd.prog 17 #[.agg (cmL c (.slice an c.nms.length nc)).toArray] W fun e w' => ∃ u, e = .returned u ∧ OwnT W.heap.size w' u (lineW c) ∧ Below W.heap.size W w' := by
        intro W hB
        have hlw : lineW c = wRan :: ((if c.det then [wD] else []) ++ c.arc :: c.nms) := by
          unfold lineW
          rw [if_pos hp]
        rw [hlw]
        have hR2 := hR.on hB
        obtain ⟨prog, op, vb, up, qu, det, dat, bare, thin, kind, wh, anc, arc, nms⟩ := c
        cases det with
        | true => exact ranLine_t prog (op.toNat : Int) kind wh vb up qu dat bare thin anc arc an nms.length nc nms W hR2 hl
        | false => exact ranLine_f prog (op.toNat : Int) kind wh vb up qu dat bare thin anc arc an nms.length nc nms W hR2 hl
      obtain ⟨prog, op, vb, up, qu, det, dat, bare, thin, kind, wh, anc, arc, nms⟩ := c
      dsimp only at hp
      subst hp
      exact line_ran (op.toNat : Int) kind wh vb up qu det dat bare thin anc arc an nms.length nc w _ (hidK hrn) (hidK hwy)
  · rw [if_neg h]
    have hr : (refC c != 0) = true := by simp [h]
    obtain ⟨prog, op, vb, up, qu, det, dat, bare, thin, kind, wh, anc, arc, nms⟩ := c
    refine (line_no prog _ (op.toNat : Int) kind wh vb up qu det dat bare thin anc arc an nms.length nc w hr (hidK hwy)).mono ?_
    rintro e w' ⟨rfl, hb9⟩
    exact ⟨_, rfl, ownT_nil _ _, hb9⟩
end Go.Proofs.YtmhamlhmmkbkaaaDoor
