
-- isMix.
import Derived.Test.YtmhamlhmmkbkaaaDoorLF
import Derived.Test.YtmhamlhmmkbkaaaDoorMC
import Derived.Laws.Rows
namespace Go.Proofs.YtmhamlhmmkbkaaaDoor
open Go.ChangeShapes Go.WideShapes Go.ChangeAt Go.RowKit
set_option linter.unusedVariables false
set_option maxRecDepth 100000
set_option linter.unusedSimpArgs false
def mixP (c : Cm) : Prop := (c.wh = 0 ∨ c.wh = 1 ∨ c.wh = 2) ∧ (c.kind = 0 ∨ c.kind = 2) ∧ ((c.prog = 1 ∧ c.wh = 0 ∧ c.kind = 0 ∧ (flagsL c = [] ∨ flagsL c = [68])) ∨ (c.prog ≠ 1 ∧ mixL c.op c.wh c.up c.det c.thin c.kind c.dat c.qu c.bare (byL (plW c.wh)) = []))
theorem plW_ne {wh : Int} (h : wh = 0 ∨ wh = 1 ∨ wh = 2) : wh ≠ 0 ↔ byL (plW wh) ≠ [] := by
  rcases h with rfl | rfl | rfl <;> simp [plW, byL]
theorem empL {l : List UInt8} (h : l ≠ []) : ((byB l).toList == []) = false ∧ (byB l).toList.isEmpty = false := by
  have e : (byB l).toList = l := by rw [ByteArray.toList_eq]; exact byL_byB l
  rw [e]
  cases l with
  | nil => exact absurd rfl h
  | cons a t => exact ⟨rfl, rfl⟩
theorem neL {l m : List UInt8} (h : l ≠ m) : ((byB l).toList == m) = false := by
  have e : (byB l).toList = l := by rw [ByteArray.toList_eq]; exact byL_byB l
  rw [e]
  exact beq_eq_false_iff_ne.2 h
set_option maxHeartbeats 4000000 in
theorem isMix_1 (prog kind wh : Int) (op : UInt8) (vb up qu det dat bare thin : Bool) (anc arc : ByteArray) (an : Option Addr) (nl nc : Nat) (w : World) (h0 : wh ≠ 0) (h1 : wh ≠ 1) (h2 : wh ≠ 2) :
    Calls Tryd.prog 28 #[.agg #[.int .i64 prog, .int .u8 (op.toNat : Int), .bool vb, .bool up, .bool qu, .bool det, .bool dat, .bool bare, .bool thin, .int .i64 kind, .int .i64 wh, .string anc, .string arc, .slice an nl nc]] w fun e w' => e = .returned (.bool false) ∧ Below w.heap.size w w' := by
  have HPL := hidK fun W => place_no wh W h0 h1 h2
  clear h0 h1 h2
  obtain ⟨on, hon⟩ : ∃ on : Int, on = (op.toNat : Int) := ⟨_, rfl⟩
  try rw [← hon] at HFL
  try rw [← hon] at HMF
  rw [← hon]
  clear hon
  obtain ⟨w1, hw1⟩ : ∃ w1, w.alloc (.cells #[.int .i64 prog, .int .u8 on, .bool vb, .bool up, .bool qu, .bool det, .bool dat, .bool bare, .bool thin, .int .i64 kind, .int .i64 wh, .string anc, .string arc, .slice an nl nc] 27) = w1 := ⟨_, rfl⟩
  have hP := heap_alloc_new w (.cells #[.int .i64 prog, .int .u8 on, .bool vb, .bool up, .bool qu, .bool det, .bool dat, .bool bare, .bool thin, .int .i64 kind, .int .i64 wh, .string anc, .string arc, .slice an nl nc] 27)
  have hB : Below w.heap.size w w1 := by rw [← hw1]; exact bupK (Below.refl _ _) _
  rw [hw1] at hP
  have x0 := cell_rowK hP 0 _ rfl
  have x9 := cell_rowK hP 9 _ rfl
  have x10 := cell_rowK hP 10 _ rfl
  go_enter Tryd.func28, Tryd.ntmps28
  go_upto_region 1 with fail
  try rw [hw1]
  clear hw1
  go_wp2_with (first
    | (go_at_call 30; refine (HPL.out _).mono ?_; rintro e w2 ⟨rfl, hw2⟩; rw [hw2]; clear hw2)
    | (refine wpList_load_row rfl _ _ rfl w.heap.size rfl _ #[.int .i64 prog, .int .u8 on, .bool vb, .bool up, .bool qu, .bool det, .bool dat, .bool bare, .bool thin, .int .i64 kind, .int .i64 wh, .string anc, .string arc, .slice an nl nc] (0, 0) _ hP Tryd.underlying27 rfl (by kernel_rfl) ?_))
  go_ret
  exact ⟨rfl, hB⟩
set_option maxHeartbeats 4000000 in
theorem isMix_2 (prog kind wh : Int) (op : UInt8) (vb up qu det dat bare thin : Bool) (anc arc : ByteArray) (an : Option Addr) (nl nc : Nat) (w : World) (h : wh = 0 ∨ wh = 1 ∨ wh = 2) (k0 : kind ≠ 0) (k2 : kind ≠ 2) :
    Calls Tryd.prog 28 #[.agg #[.int .i64 prog, .int .u8 (op.toNat : Int), .bool vb, .bool up, .bool qu, .bool det, .bool dat, .bool bare, .bool thin, .int .i64 kind, .int .i64 wh, .string anc, .string arc, .slice an nl nc]] w fun e w' => e = .returned (.bool false) ∧ Below w.heap.size w w' := by
  have HPL := hidK fun W => place_ok wh W h
  obtain ⟨q, hq⟩ : ∃ q, q = plW wh := ⟨_, rfl⟩
  rw [← hq] at HPL
  have g0 : (kind != 0) = true := by simp [k0]
  have g2 : (kind != 2) = true := by simp [k2]
  clear hq h k0 k2
  obtain ⟨on, hon⟩ : ∃ on : Int, on = (op.toNat : Int) := ⟨_, rfl⟩
  try rw [← hon] at HFL
  try rw [← hon] at HMF
  rw [← hon]
  clear hon
  obtain ⟨w1, hw1⟩ : ∃ w1, w.alloc (.cells #[.int .i64 prog, .int .u8 on, .bool vb, .bool up, .bool qu, .bool det, .bool dat, .bool bare, .bool thin, .int .i64 kind, .int .i64 wh, .string anc, .string arc, .slice an nl nc] 27) = w1 := ⟨_, rfl⟩
  have hP := heap_alloc_new w (.cells #[.int .i64 prog, .int .u8 on, .bool vb, .bool up, .bool qu, .bool det, .bool dat, .bool bare, .bool thin, .int .i64 kind, .int .i64 wh, .string anc, .string arc, .slice an nl nc] 27)
  have hB : Below w.heap.size w w1 := by rw [← hw1]; exact bupK (Below.refl _ _) _
  rw [hw1] at hP
  have x0 := cell_rowK hP 0 _ rfl
  have x9 := cell_rowK hP 9 _ rfl
  have x10 := cell_rowK hP 10 _ rfl
  go_enter Tryd.func28, Tryd.ntmps28
  go_upto_region 1 with fail
  try rw [hw1]
  clear hw1
  go_wp2_with (first
    | (go_at_call 30; refine (HPL.out _).mono ?_; rintro e w2 ⟨rfl, hw2⟩; rw [hw2]; clear hw2)
    | (refine wpList_load_row rfl _ _ rfl w.heap.size rfl _ #[.int .i64 prog, .int .u8 on, .bool vb, .bool up, .bool qu, .bool det, .bool dat, .bool bare, .bool thin, .int .i64 kind, .int .i64 wh, .string anc, .string arc, .slice an nl nc] (0, 0) _ hP Tryd.underlying27 rfl (by kernel_rfl) ?_))
  go_ret
  exact ⟨rfl, hB⟩
set_option maxHeartbeats 4000000 in
theorem isMix_3w0 (wh : Int) (op : UInt8) (vb up qu det dat bare thin : Bool) (anc arc : ByteArray) (an : Option Addr) (nl nc : Nat) (w : World) (h : wh = 1 ∨ wh = 2) :
    Calls Tryd.prog 28 #[.agg #[.int .i64 1, .int .u8 (op.toNat : Int), .bool vb, .bool up, .bool qu, .bool det, .bool dat, .bool bare, .bool thin, .int .i64 0, .int .i64 wh, .string anc, .string arc, .slice an nl nc]] w fun e w' => e = .returned (.bool false) ∧ Below w.heap.size w w' := by
  have HPL := hidK fun W => place_ok wh W (by omega)
  have hne : plW wh ≠ ⟨#[]⟩ := by rcases h with rfl | rfl <;> decide
  have g1 : ((plW wh).toList == []) = false := beqW hne rfl
  have g2 : (plW wh).toList.isEmpty = false := by rcases h with rfl | rfl <;> (rw [ByteArray.toList_eq]; rfl)
  obtain ⟨q, hq⟩ : ∃ q, q = plW wh := ⟨_, rfl⟩
  rw [← hq] at HPL g1 g2
  obtain ⟨F, hF⟩ : ∃ F, F = byB (flagsL ⟨1, op, vb, up, qu, det, dat, bare, thin, 0, wh, anc, arc, []⟩) := ⟨_, rfl⟩
  have HFL : Hid (∀ W, Calls Tryd.prog 31 #[.agg #[.int .i64 1, .int .u8 (op.toNat : Int), .bool vb, .bool up, .bool qu, .bool det, .bool dat, .bool bare, .bool thin, .int .i64 0, .int .i64 wh, .string anc, .string arc, .slice an nl nc]] W fun e w' => e = .returned (.string F) ∧ Below W.heap.size W w') := fun W => by
    rw [hF]; exact flags_c ⟨1, op, vb, up, qu, det, dat, bare, thin, 0, wh, anc, arc, []⟩ an nl nc W
  clear hq hne h hF
  obtain ⟨on, hon⟩ : ∃ on : Int, on = (op.toNat : Int) := ⟨_, rfl⟩
  try rw [← hon] at HFL
  try rw [← hon] at HMF
  rw [← hon]
  clear hon
  obtain ⟨w1, hw1⟩ : ∃ w1, w.alloc (.cells #[.int .i64 1, .int .u8 on, .bool vb, .bool up, .bool qu, .bool det, .bool dat, .bool bare, .bool thin, .int .i64 0, .int .i64 wh, .string anc, .string arc, .slice an nl nc] 27) = w1 := ⟨_, rfl⟩
  have hP := heap_alloc_new w (.cells #[.int .i64 1, .int .u8 on, .bool vb, .bool up, .bool qu, .bool det, .bool dat, .bool bare, .bool thin, .int .i64 0, .int .i64 wh, .string anc, .string arc, .slice an nl nc] 27)
  have hB : Below w.heap.size w w1 := by rw [← hw1]; exact bupK (Below.refl _ _) _
  rw [hw1] at hP
  have x0 := cell_rowK hP 0 _ rfl
  have x9 := cell_rowK hP 9 _ rfl
  have x10 := cell_rowK hP 10 _ rfl
  go_enter Tryd.func28, Tryd.ntmps28
  go_upto_region 1 with fail
  try rw [hw1]
  clear hw1
  go_wp2_with (first
    | (go_at_call 30; refine (HPL.out _).mono ?_; rintro e w2 ⟨rfl, hw2⟩; rw [hw2]; clear hw2)
    | (go_at_call 31; refine (HFL.out _).mono ?_; rintro e w3 ⟨rfl, b3⟩; have y9 := cell_onG x9 b3)
    | (refine wpList_load_row rfl _ _ rfl w.heap.size rfl _ #[.int .i64 1, .int .u8 on, .bool vb, .bool up, .bool qu, .bool det, .bool dat, .bool bare, .bool thin, .int .i64 0, .int .i64 wh, .string anc, .string arc, .slice an nl nc] (0, 0) _ hP Tryd.underlying27 rfl (by kernel_rfl) ?_))
  go_ret
  exact ⟨rfl, bel3K hB b3⟩
set_option maxHeartbeats 4000000 in
theorem isMix_3w2 (wh : Int) (op : UInt8) (vb up qu det dat bare thin : Bool) (anc arc : ByteArray) (an : Option Addr) (nl nc : Nat) (w : World) (h : wh = 1 ∨ wh = 2) :
    Calls Tryd.prog 28 #[.agg #[.int .i64 1, .int .u8 (op.toNat : Int), .bool vb, .bool up, .bool qu, .bool det, .bool dat, .bool bare, .bool thin, .int .i64 2, .int .i64 wh, .string anc, .string arc, .slice an nl nc]] w fun e w' => e = .returned (.bool false) ∧ Below w.heap.size w w' := by
  have HPL := hidK fun W => place_ok wh W (by omega)
  have hne : plW wh ≠ ⟨#[]⟩ := by rcases h with rfl | rfl <;> decide
  have g1 : ((plW wh).toList == []) = false := beqW hne rfl
  have g2 : (plW wh).toList.isEmpty = false := by rcases h with rfl | rfl <;> (rw [ByteArray.toList_eq]; rfl)
  obtain ⟨q, hq⟩ : ∃ q, q = plW wh := ⟨_, rfl⟩
  rw [← hq] at HPL g1 g2
  obtain ⟨F, hF⟩ : ∃ F, F = byB (flagsL ⟨1, op, vb, up, qu, det, dat, bare, thin, 2, wh, anc, arc, []⟩) := ⟨_, rfl⟩
  have HFL : Hid (∀ W, Calls Tryd.prog 31 #[.agg #[.int .i64 1, .int .u8 (op.toNat : Int), .bool vb, .bool up, .bool qu, .bool det, .bool dat, .bool bare, .bool thin, .int .i64 2, .int .i64 wh, .string anc, .string arc, .slice an nl nc]] W fun e w' => e = .returned (.string F) ∧ Below W.heap.size W w') := fun W => by
    rw [hF]; exact flags_c ⟨1, op, vb, up, qu, det, dat, bare, thin, 2, wh, anc, arc, []⟩ an nl nc W
  clear hq hne h hF
  obtain ⟨on, hon⟩ : ∃ on : Int, on = (op.toNat : Int) := ⟨_, rfl⟩
  try rw [← hon] at HFL
  try rw [← hon] at HMF
  rw [← hon]
  clear hon
  obtain ⟨w1, hw1⟩ : ∃ w1, w.alloc (.cells #[.int .i64 1, .int .u8 on, .bool vb, .bool up, .bool qu, .bool det, .bool dat, .bool bare, .bool thin, .int .i64 2, .int .i64 wh, .string anc, .string arc, .slice an nl nc] 27) = w1 := ⟨_, rfl⟩
  have hP := heap_alloc_new w (.cells #[.int .i64 1, .int .u8 on, .bool vb, .bool up, .bool qu, .bool det, .bool dat, .bool bare, .bool thin, .int .i64 2, .int .i64 wh, .string anc, .string arc, .slice an nl nc] 27)
  have hB : Below w.heap.size w w1 := by rw [← hw1]; exact bupK (Below.refl _ _) _
  rw [hw1] at hP
  have x0 := cell_rowK hP 0 _ rfl
  have x9 := cell_rowK hP 9 _ rfl
  have x10 := cell_rowK hP 10 _ rfl
  go_enter Tryd.func28, Tryd.ntmps28
  go_upto_region 1 with fail
  try rw [hw1]
  clear hw1
  go_wp2_with (first
    | (go_at_call 30; refine (HPL.out _).mono ?_; rintro e w2 ⟨rfl, hw2⟩; rw [hw2]; clear hw2)
    | (go_at_call 31; refine (HFL.out _).mono ?_; rintro e w3 ⟨rfl, b3⟩; have y9 := cell_onG x9 b3)
    | (refine wpList_load_row rfl _ _ rfl w.heap.size rfl _ #[.int .i64 1, .int .u8 on, .bool vb, .bool up, .bool qu, .bool det, .bool dat, .bool bare, .bool thin, .int .i64 2, .int .i64 wh, .string anc, .string arc, .slice an nl nc] (0, 0) _ hP Tryd.underlying27 rfl (by kernel_rfl) ?_))
  go_ret
  exact ⟨rfl, bel3K hB b3⟩
set_option maxHeartbeats 4000000 in
theorem isMix_3k  (op : UInt8) (vb up qu det dat bare thin : Bool) (anc arc : ByteArray) (an : Option Addr) (nl nc : Nat) (w : World)  :
    Calls Tryd.prog 28 #[.agg #[.int .i64 1, .int .u8 (op.toNat : Int), .bool vb, .bool up, .bool qu, .bool det, .bool dat, .bool bare, .bool thin, .int .i64 2, .int .i64 0, .string anc, .string arc, .slice an nl nc]] w fun e w' => e = .returned (.bool false) ∧ Below w.heap.size w w' := by
  have HPL : Hid (∀ W, Calls Tryd.prog 30 #[.int .i64 0] W fun e w' => e = .returned (.tuple #[.string ⟨#[]⟩, .bool true]) ∧ w' = W) := fun W => place_ok 0 W (.inl rfl)
  obtain ⟨F, hF⟩ : ∃ F, F = byB (flagsL ⟨1, op, vb, up, qu, det, dat, bare, thin, 2, 0, anc, arc, []⟩) := ⟨_, rfl⟩
  have HFL : Hid (∀ W, Calls Tryd.prog 31 #[.agg #[.int .i64 1, .int .u8 (op.toNat : Int), .bool vb, .bool up, .bool qu, .bool det, .bool dat, .bool bare, .bool thin, .int .i64 2, .int .i64 0, .string anc, .string arc, .slice an nl nc]] W fun e w' => e = .returned (.string F) ∧ Below W.heap.size W w') := fun W => by
    rw [hF]; exact flags_c ⟨1, op, vb, up, qu, det, dat, bare, thin, 2, 0, anc, arc, []⟩ an nl nc W
  clear hF
  obtain ⟨on, hon⟩ : ∃ on : Int, on = (op.toNat : Int) := ⟨_, rfl⟩
  try rw [← hon] at HFL
  try rw [← hon] at HMF
  rw [← hon]
  clear hon
  obtain ⟨w1, hw1⟩ : ∃ w1, w.alloc (.cells #[.int .i64 1, .int .u8 on, .bool vb, .bool up, .bool qu, .bool det, .bool dat, .bool bare, .bool thin, .int .i64 2, .int .i64 0, .string anc, .string arc, .slice an nl nc] 27) = w1 := ⟨_, rfl⟩
  have hP := heap_alloc_new w (.cells #[.int .i64 1, .int .u8 on, .bool vb, .bool up, .bool qu, .bool det, .bool dat, .bool bare, .bool thin, .int .i64 2, .int .i64 0, .string anc, .string arc, .slice an nl nc] 27)
  have hB : Below w.heap.size w w1 := by rw [← hw1]; exact bupK (Below.refl _ _) _
  rw [hw1] at hP
  have x0 := cell_rowK hP 0 _ rfl
  have x9 := cell_rowK hP 9 _ rfl
  have x10 := cell_rowK hP 10 _ rfl
  go_enter Tryd.func28, Tryd.ntmps28
  go_upto_region 1 with fail
  try rw [hw1]
  clear hw1
  go_wp2_with (first
    | (go_at_call 30; refine (HPL.out _).mono ?_; rintro e w2 ⟨rfl, hw2⟩; rw [hw2]; clear hw2)
    | (go_at_call 31; refine (HFL.out _).mono ?_; rintro e w3 ⟨rfl, b3⟩; have y9 := cell_onG x9 b3)
    | (refine wpList_load_row rfl _ _ rfl w.heap.size rfl _ #[.int .i64 1, .int .u8 on, .bool vb, .bool up, .bool qu, .bool det, .bool dat, .bool bare, .bool thin, .int .i64 2, .int .i64 0, .string anc, .string arc, .slice an nl nc] (0, 0) _ hP Tryd.underlying27 rfl (by kernel_rfl) ?_))
  go_ret
  exact ⟨rfl, bel3K hB b3⟩
set_option maxHeartbeats 4000000 in
theorem isMix_3e  (op : UInt8) (vb up qu det dat bare thin : Bool) (anc arc : ByteArray) (an : Option Addr) (nl nc : Nat) (w : World) (hf : flagsL ⟨1, op, vb, up, qu, det, dat, bare, thin, 0, 0, anc, arc, []⟩ = []) :
    Calls Tryd.prog 28 #[.agg #[.int .i64 1, .int .u8 (op.toNat : Int), .bool vb, .bool up, .bool qu, .bool det, .bool dat, .bool bare, .bool thin, .int .i64 0, .int .i64 0, .string anc, .string arc, .slice an nl nc]] w fun e w' => e = .returned (.bool true) ∧ Below w.heap.size w w' := by
  have HPL : Hid (∀ W, Calls Tryd.prog 30 #[.int .i64 0] W fun e w' => e = .returned (.tuple #[.string ⟨#[]⟩, .bool true]) ∧ w' = W) := fun W => place_ok 0 W (.inl rfl)
  have HFL : Hid (∀ W, Calls Tryd.prog 31 #[.agg #[.int .i64 1, .int .u8 (op.toNat : Int), .bool vb, .bool up, .bool qu, .bool det, .bool dat, .bool bare, .bool thin, .int .i64 0, .int .i64 0, .string anc, .string arc, .slice an nl nc]] W fun e w' => e = .returned (.string ⟨#[]⟩) ∧ Below W.heap.size W w') := fun W => by
    have h5 := flags_c ⟨1, op, vb, up, qu, det, dat, bare, thin, 0, 0, anc, arc, []⟩ an nl nc W
    rw [hf] at h5
    exact h5
  clear hf
  obtain ⟨on, hon⟩ : ∃ on : Int, on = (op.toNat : Int) := ⟨_, rfl⟩
  try rw [← hon] at HFL
  try rw [← hon] at HMF
  rw [← hon]
  clear hon
  obtain ⟨w1, hw1⟩ : ∃ w1, w.alloc (.cells #[.int .i64 1, .int .u8 on, .bool vb, .bool up, .bool qu, .bool det, .bool dat, .bool bare, .bool thin, .int .i64 0, .int .i64 0, .string anc, .string arc, .slice an nl nc] 27) = w1 := ⟨_, rfl⟩
  have hP := heap_alloc_new w (.cells #[.int .i64 1, .int .u8 on, .bool vb, .bool up, .bool qu, .bool det, .bool dat, .bool bare, .bool thin, .int .i64 0, .int .i64 0, .string anc, .string arc, .slice an nl nc] 27)
  have hB : Below w.heap.size w w1 := by rw [← hw1]; exact bupK (Below.refl _ _) _
  rw [hw1] at hP
  have x0 := cell_rowK hP 0 _ rfl
  have x9 := cell_rowK hP 9 _ rfl
  have x10 := cell_rowK hP 10 _ rfl
  go_enter Tryd.func28, Tryd.ntmps28
  go_upto_region 1 with fail
  try rw [hw1]
  clear hw1
  go_wp2_with (first
    | (go_at_call 30; refine (HPL.out _).mono ?_; rintro e w2 ⟨rfl, hw2⟩; rw [hw2]; clear hw2)
    | (go_at_call 31; refine (HFL.out _).mono ?_; rintro e w3 ⟨rfl, b3⟩; have y9 := cell_onG x9 b3)
    | (refine wpList_load_row rfl _ _ rfl w.heap.size rfl _ #[.int .i64 1, .int .u8 on, .bool vb, .bool up, .bool qu, .bool det, .bool dat, .bool bare, .bool thin, .int .i64 0, .int .i64 0, .string anc, .string arc, .slice an nl nc] (0, 0) _ hP Tryd.underlying27 rfl (by kernel_rfl) ?_))
  go_ret
  exact ⟨rfl, bel3K hB b3⟩
set_option maxHeartbeats 4000000 in
theorem isMix_3d  (op : UInt8) (vb up qu det dat bare thin : Bool) (anc arc : ByteArray) (an : Option Addr) (nl nc : Nat) (w : World) (hf : flagsL ⟨1, op, vb, up, qu, det, dat, bare, thin, 0, 0, anc, arc, []⟩ = [68]) :
    Calls Tryd.prog 28 #[.agg #[.int .i64 1, .int .u8 (op.toNat : Int), .bool vb, .bool up, .bool qu, .bool det, .bool dat, .bool bare, .bool thin, .int .i64 0, .int .i64 0, .string anc, .string arc, .slice an nl nc]] w fun e w' => e = .returned (.bool true) ∧ Below w.heap.size w w' := by
  have HPL : Hid (∀ W, Calls Tryd.prog 30 #[.int .i64 0] W fun e w' => e = .returned (.tuple #[.string ⟨#[]⟩, .bool true]) ∧ w' = W) := fun W => place_ok 0 W (.inl rfl)
  have HFL : Hid (∀ W, Calls Tryd.prog 31 #[.agg #[.int .i64 1, .int .u8 (op.toNat : Int), .bool vb, .bool up, .bool qu, .bool det, .bool dat, .bool bare, .bool thin, .int .i64 0, .int .i64 0, .string anc, .string arc, .slice an nl nc]] W fun e w' => e = .returned (.string ⟨#[68]⟩) ∧ Below W.heap.size W w') := fun W => by
    have h5 := flags_c ⟨1, op, vb, up, qu, det, dat, bare, thin, 0, 0, anc, arc, []⟩ an nl nc W
    rw [hf] at h5
    exact h5
  clear hf
  obtain ⟨on, hon⟩ : ∃ on : Int, on = (op.toNat : Int) := ⟨_, rfl⟩
  try rw [← hon] at HFL
  try rw [← hon] at HMF
  rw [← hon]
  clear hon
  obtain ⟨w1, hw1⟩ : ∃ w1, w.alloc (.cells #[.int .i64 1, .int .u8 on, .bool vb, .bool up, .bool qu, .bool det, .bool dat, .bool bare, .bool thin, .int .i64 0, .int .i64 0, .string anc, .string arc, .slice an nl nc] 27) = w1 := ⟨_, rfl⟩
  have hP := heap_alloc_new w (.cells #[.int .i64 1, .int .u8 on, .bool vb, .bool up, .bool qu, .bool det, .bool dat, .bool bare, .bool thin, .int .i64 0, .int .i64 0, .string anc, .string arc, .slice an nl nc] 27)
  have hB : Below w.heap.size w w1 := by rw [← hw1]; exact bupK (Below.refl _ _) _
  rw [hw1] at hP
  have x0 := cell_rowK hP 0 _ rfl
  have x9 := cell_rowK hP 9 _ rfl
  have x10 := cell_rowK hP 10 _ rfl
  go_enter Tryd.func28, Tryd.ntmps28
  go_upto_region 1 with fail
  try rw [hw1]
  clear hw1
  go_wp2_with (first
    | (go_at_call 30; refine (HPL.out _).mono ?_; rintro e w2 ⟨rfl, hw2⟩; rw [hw2]; clear hw2)
    | (go_at_call 31; refine (HFL.out _).mono ?_; rintro e w3 ⟨rfl, b3⟩; have y9 := cell_onG x9 b3)
    | (refine wpList_load_row rfl _ _ rfl w.heap.size rfl _ #[.int .i64 1, .int .u8 on, .bool vb, .bool up, .bool qu, .bool det, .bool dat, .bool bare, .bool thin, .int .i64 0, .int .i64 0, .string anc, .string arc, .slice an nl nc] (0, 0) _ hP Tryd.underlying27 rfl (by kernel_rfl) ?_))
  go_ret
  exact ⟨rfl, bel3K hB b3⟩
set_option maxHeartbeats 4000000 in
theorem isMix_3n  (op : UInt8) (vb up qu det dat bare thin : Bool) (anc arc : ByteArray) (an : Option Addr) (nl nc : Nat) (w : World) (h1 : flagsL ⟨1, op, vb, up, qu, det, dat, bare, thin, 0, 0, anc, arc, []⟩ ≠ []) (h2 : flagsL ⟨1, op, vb, up, qu, det, dat, bare, thin, 0, 0, anc, arc, []⟩ ≠ [68]) :
    Calls Tryd.prog 28 #[.agg #[.int .i64 1, .int .u8 (op.toNat : Int), .bool vb, .bool up, .bool qu, .bool det, .bool dat, .bool bare, .bool thin, .int .i64 0, .int .i64 0, .string anc, .string arc, .slice an nl nc]] w fun e w' => e = .returned (.bool false) ∧ Below w.heap.size w w' := by
  have HPL : Hid (∀ W, Calls Tryd.prog 30 #[.int .i64 0] W fun e w' => e = .returned (.tuple #[.string ⟨#[]⟩, .bool true]) ∧ w' = W) := fun W => place_ok 0 W (.inl rfl)
  have n1 := empL h1
  have n2 : ((byB (flagsL ⟨1, op, vb, up, qu, det, dat, bare, thin, 0, 0, anc, arc, []⟩)).toList == [68]) = false := neL h2
  obtain ⟨F, hF⟩ : ∃ F, F = byB (flagsL ⟨1, op, vb, up, qu, det, dat, bare, thin, 0, 0, anc, arc, []⟩) := ⟨_, rfl⟩
  have HFL : Hid (∀ W, Calls Tryd.prog 31 #[.agg #[.int .i64 1, .int .u8 (op.toNat : Int), .bool vb, .bool up, .bool qu, .bool det, .bool dat, .bool bare, .bool thin, .int .i64 0, .int .i64 0, .string anc, .string arc, .slice an nl nc]] W fun e w' => e = .returned (.string F) ∧ Below W.heap.size W w') := fun W => by
    rw [hF]; exact flags_c ⟨1, op, vb, up, qu, det, dat, bare, thin, 0, 0, anc, arc, []⟩ an nl nc W
  rw [← hF] at n1 n2
  obtain ⟨n3, n4⟩ := n1
  clear hF h1 h2
  obtain ⟨on, hon⟩ : ∃ on : Int, on = (op.toNat : Int) := ⟨_, rfl⟩
  try rw [← hon] at HFL
  try rw [← hon] at HMF
  rw [← hon]
  clear hon
  obtain ⟨w1, hw1⟩ : ∃ w1, w.alloc (.cells #[.int .i64 1, .int .u8 on, .bool vb, .bool up, .bool qu, .bool det, .bool dat, .bool bare, .bool thin, .int .i64 0, .int .i64 0, .string anc, .string arc, .slice an nl nc] 27) = w1 := ⟨_, rfl⟩
  have hP := heap_alloc_new w (.cells #[.int .i64 1, .int .u8 on, .bool vb, .bool up, .bool qu, .bool det, .bool dat, .bool bare, .bool thin, .int .i64 0, .int .i64 0, .string anc, .string arc, .slice an nl nc] 27)
  have hB : Below w.heap.size w w1 := by rw [← hw1]; exact bupK (Below.refl _ _) _
  rw [hw1] at hP
  have x0 := cell_rowK hP 0 _ rfl
  have x9 := cell_rowK hP 9 _ rfl
  have x10 := cell_rowK hP 10 _ rfl
  go_enter Tryd.func28, Tryd.ntmps28
  go_upto_region 1 with fail
  try rw [hw1]
  clear hw1
  go_wp2_with (first
    | (go_at_call 30; refine (HPL.out _).mono ?_; rintro e w2 ⟨rfl, hw2⟩; rw [hw2]; clear hw2)
    | (go_at_call 31; refine (HFL.out _).mono ?_; rintro e w3 ⟨rfl, b3⟩; have y9 := cell_onG x9 b3)
    | (refine wpList_load_row rfl _ _ rfl w.heap.size rfl _ #[.int .i64 1, .int .u8 on, .bool vb, .bool up, .bool qu, .bool det, .bool dat, .bool bare, .bool thin, .int .i64 0, .int .i64 0, .string anc, .string arc, .slice an nl nc] (0, 0) _ hP Tryd.underlying27 rfl (by kernel_rfl) ?_))
  go_ret
  exact ⟨rfl, bel3K hB b3⟩
set_option maxHeartbeats 4000000 in
theorem isMix_4y0 (prog wh : Int) (op : UInt8) (vb up qu det dat bare thin : Bool) (anc arc : ByteArray) (an : Option Addr) (nl nc : Nat) (w : World) (hp : prog ≠ 1) (h : wh = 0 ∨ wh = 1 ∨ wh = 2) (hm : mixL op wh up det thin 0 dat qu bare (byL (plW wh)) = []) :
    Calls Tryd.prog 28 #[.agg #[.int .i64 prog, .int .u8 (op.toNat : Int), .bool vb, .bool up, .bool qu, .bool det, .bool dat, .bool bare, .bool thin, .int .i64 0, .int .i64 wh, .string anc, .string arc, .slice an nl nc]] w fun e w' => e = .returned (.bool true) ∧ Below w.heap.size w w' := by
  have HPL := hidK fun W => place_ok wh W h
  have HMF : Hid (∀ W, Calls Tryd.prog 38 #[.agg #[.int .i64 prog, .int .u8 (op.toNat : Int), .bool vb, .bool up, .bool qu, .bool det, .bool dat, .bool bare, .bool thin, .int .i64 0, .int .i64 wh, .string anc, .string arc, .slice an nl nc], .string (plW wh)] W fun e w' => e = .returned (.string (byB (mixL op wh up det thin 0 dat qu bare (byL (plW wh))))) ∧ Below W.heap.size W w') := fun W => misfit_c ⟨prog, op, vb, up, qu, det, dat, bare, thin, 0, wh, anc, arc, []⟩ an nl nc (plW wh) W (plW_ne h)
  rw [hm] at HMF
  have e0 : byB [] = ⟨#[]⟩ := rfl
  rw [e0] at HMF
  obtain ⟨q, hq⟩ : ∃ q, q = plW wh := ⟨_, rfl⟩
  rw [← hq] at HPL HMF
  have gp : (prog == 1) = false := by simp [hp]
  clear hq h hm hp e0
  obtain ⟨on, hon⟩ : ∃ on : Int, on = (op.toNat : Int) := ⟨_, rfl⟩
  try rw [← hon] at HFL
  try rw [← hon] at HMF
  rw [← hon]
  clear hon
  obtain ⟨w1, hw1⟩ : ∃ w1, w.alloc (.cells #[.int .i64 prog, .int .u8 on, .bool vb, .bool up, .bool qu, .bool det, .bool dat, .bool bare, .bool thin, .int .i64 0, .int .i64 wh, .string anc, .string arc, .slice an nl nc] 27) = w1 := ⟨_, rfl⟩
  have hP := heap_alloc_new w (.cells #[.int .i64 prog, .int .u8 on, .bool vb, .bool up, .bool qu, .bool det, .bool dat, .bool bare, .bool thin, .int .i64 0, .int .i64 wh, .string anc, .string arc, .slice an nl nc] 27)
  have hB : Below w.heap.size w w1 := by rw [← hw1]; exact bupK (Below.refl _ _) _
  rw [hw1] at hP
  have x0 := cell_rowK hP 0 _ rfl
  have x9 := cell_rowK hP 9 _ rfl
  have x10 := cell_rowK hP 10 _ rfl
  go_enter Tryd.func28, Tryd.ntmps28
  go_upto_region 1 with fail
  try rw [hw1]
  clear hw1
  go_wp2_with (first
    | (go_at_call 30; refine (HPL.out _).mono ?_; rintro e w2 ⟨rfl, hw2⟩; rw [hw2]; clear hw2)
    | (go_at_call 38; refine (HMF.out _).mono ?_; rintro e w3 ⟨rfl, b3⟩)
    | (refine wpList_load_row rfl _ _ rfl w.heap.size rfl _ #[.int .i64 prog, .int .u8 on, .bool vb, .bool up, .bool qu, .bool det, .bool dat, .bool bare, .bool thin, .int .i64 0, .int .i64 wh, .string anc, .string arc, .slice an nl nc] (0, 0) _ hP Tryd.underlying27 rfl (by kernel_rfl) ?_))
  go_ret
  exact ⟨rfl, bel3K hB b3⟩
set_option maxHeartbeats 4000000 in
theorem isMix_4n0 (prog wh : Int) (op : UInt8) (vb up qu det dat bare thin : Bool) (anc arc : ByteArray) (an : Option Addr) (nl nc : Nat) (w : World) (hp : prog ≠ 1) (h : wh = 0 ∨ wh = 1 ∨ wh = 2) (hm : mixL op wh up det thin 0 dat qu bare (byL (plW wh)) ≠ []) :
    Calls Tryd.prog 28 #[.agg #[.int .i64 prog, .int .u8 (op.toNat : Int), .bool vb, .bool up, .bool qu, .bool det, .bool dat, .bool bare, .bool thin, .int .i64 0, .int .i64 wh, .string anc, .string arc, .slice an nl nc]] w fun e w' => e = .returned (.bool false) ∧ Below w.heap.size w w' := by
  have HPL := hidK fun W => place_ok wh W h
  have HMF : Hid (∀ W, Calls Tryd.prog 38 #[.agg #[.int .i64 prog, .int .u8 (op.toNat : Int), .bool vb, .bool up, .bool qu, .bool det, .bool dat, .bool bare, .bool thin, .int .i64 0, .int .i64 wh, .string anc, .string arc, .slice an nl nc], .string (plW wh)] W fun e w' => e = .returned (.string (byB (mixL op wh up det thin 0 dat qu bare (byL (plW wh))))) ∧ Below W.heap.size W w') := fun W => misfit_c ⟨prog, op, vb, up, qu, det, dat, bare, thin, 0, wh, anc, arc, []⟩ an nl nc (plW wh) W (plW_ne h)
  obtain ⟨n1, n2⟩ := empL hm
  obtain ⟨M, hM⟩ : ∃ M, M = byB (mixL op wh up det thin 0 dat qu bare (byL (plW wh))) := ⟨_, rfl⟩
  rw [← hM] at HMF n1 n2
  obtain ⟨q, hq⟩ : ∃ q, q = plW wh := ⟨_, rfl⟩
  rw [← hq] at HPL HMF
  have gp : (prog == 1) = false := by simp [hp]
  clear hq h hm hp hM
  obtain ⟨on, hon⟩ : ∃ on : Int, on = (op.toNat : Int) := ⟨_, rfl⟩
  try rw [← hon] at HFL
  try rw [← hon] at HMF
  rw [← hon]
  clear hon
  obtain ⟨w1, hw1⟩ : ∃ w1, w.alloc (.cells #[.int .i64 prog, .int .u8 on, .bool vb, .bool up, .bool qu, .bool det, .bool dat, .bool bare, .bool thin, .int .i64 0, .int .i64 wh, .string anc, .string arc, .slice an nl nc] 27) = w1 := ⟨_, rfl⟩
  have hP := heap_alloc_new w (.cells #[.int .i64 prog, .int .u8 on, .bool vb, .bool up, .bool qu, .bool det, .bool dat, .bool bare, .bool thin, .int .i64 0, .int .i64 wh, .string anc, .string arc, .slice an nl nc] 27)
  have hB : Below w.heap.size w w1 := by rw [← hw1]; exact bupK (Below.refl _ _) _
  rw [hw1] at hP
  have x0 := cell_rowK hP 0 _ rfl
  have x9 := cell_rowK hP 9 _ rfl
  have x10 := cell_rowK hP 10 _ rfl
  go_enter Tryd.func28, Tryd.ntmps28
  go_upto_region 1 with fail
  try rw [hw1]
  clear hw1
  go_wp2_with (first
    | (go_at_call 30; refine (HPL.out _).mono ?_; rintro e w2 ⟨rfl, hw2⟩; rw [hw2]; clear hw2)
    | (go_at_call 38; refine (HMF.out _).mono ?_; rintro e w3 ⟨rfl, b3⟩)
    | (refine wpList_load_row rfl _ _ rfl w.heap.size rfl _ #[.int .i64 prog, .int .u8 on, .bool vb, .bool up, .bool qu, .bool det, .bool dat, .bool bare, .bool thin, .int .i64 0, .int .i64 wh, .string anc, .string arc, .slice an nl nc] (0, 0) _ hP Tryd.underlying27 rfl (by kernel_rfl) ?_))
  go_ret
  exact ⟨rfl, bel3K hB b3⟩
set_option maxHeartbeats 4000000 in
theorem isMix_4y2 (prog wh : Int) (op : UInt8) (vb up qu det dat bare thin : Bool) (anc arc : ByteArray) (an : Option Addr) (nl nc : Nat) (w : World) (hp : prog ≠ 1) (h : wh = 0 ∨ wh = 1 ∨ wh = 2) (hm : mixL op wh up det thin 2 dat qu bare (byL (plW wh)) = []) :
    Calls Tryd.prog 28 #[.agg #[.int .i64 prog, .int .u8 (op.toNat : Int), .bool vb, .bool up, .bool qu, .bool det, .bool dat, .bool bare, .bool thin, .int .i64 2, .int .i64 wh, .string anc, .string arc, .slice an nl nc]] w fun e w' => e = .returned (.bool true) ∧ Below w.heap.size w w' := by
  have HPL := hidK fun W => place_ok wh W h
  have HMF : Hid (∀ W, Calls Tryd.prog 38 #[.agg #[.int .i64 prog, .int .u8 (op.toNat : Int), .bool vb, .bool up, .bool qu, .bool det, .bool dat, .bool bare, .bool thin, .int .i64 2, .int .i64 wh, .string anc, .string arc, .slice an nl nc], .string (plW wh)] W fun e w' => e = .returned (.string (byB (mixL op wh up det thin 2 dat qu bare (byL (plW wh))))) ∧ Below W.heap.size W w') := fun W => misfit_c ⟨prog, op, vb, up, qu, det, dat, bare, thin, 2, wh, anc, arc, []⟩ an nl nc (plW wh) W (plW_ne h)
  rw [hm] at HMF
  have e0 : byB [] = ⟨#[]⟩ := rfl
  rw [e0] at HMF
  obtain ⟨q, hq⟩ : ∃ q, q = plW wh := ⟨_, rfl⟩
  rw [← hq] at HPL HMF
  have gp : (prog == 1) = false := by simp [hp]
  clear hq h hm hp e0
  obtain ⟨on, hon⟩ : ∃ on : Int, on = (op.toNat : Int) := ⟨_, rfl⟩
  try rw [← hon] at HFL
  try rw [← hon] at HMF
  rw [← hon]
  clear hon
  obtain ⟨w1, hw1⟩ : ∃ w1, w.alloc (.cells #[.int .i64 prog, .int .u8 on, .bool vb, .bool up, .bool qu, .bool det, .bool dat, .bool bare, .bool thin, .int .i64 2, .int .i64 wh, .string anc, .string arc, .slice an nl nc] 27) = w1 := ⟨_, rfl⟩
  have hP := heap_alloc_new w (.cells #[.int .i64 prog, .int .u8 on, .bool vb, .bool up, .bool qu, .bool det, .bool dat, .bool bare, .bool thin, .int .i64 2, .int .i64 wh, .string anc, .string arc, .slice an nl nc] 27)
  have hB : Below w.heap.size w w1 := by rw [← hw1]; exact bupK (Below.refl _ _) _
  rw [hw1] at hP
  have x0 := cell_rowK hP 0 _ rfl
  have x9 := cell_rowK hP 9 _ rfl
  have x10 := cell_rowK hP 10 _ rfl
  go_enter Tryd.func28, Tryd.ntmps28
  go_upto_region 1 with fail
  try rw [hw1]
  clear hw1
  go_wp2_with (first
    | (go_at_call 30; refine (HPL.out _).mono ?_; rintro e w2 ⟨rfl, hw2⟩; rw [hw2]; clear hw2)
    | (go_at_call 38; refine (HMF.out _).mono ?_; rintro e w3 ⟨rfl, b3⟩)
    | (refine wpList_load_row rfl _ _ rfl w.heap.size rfl _ #[.int .i64 prog, .int .u8 on, .bool vb, .bool up, .bool qu, .bool det, .bool dat, .bool bare, .bool thin, .int .i64 2, .int .i64 wh, .string anc, .string arc, .slice an nl nc] (0, 0) _ hP Tryd.underlying27 rfl (by kernel_rfl) ?_))
  go_ret
  exact ⟨rfl, bel3K hB b3⟩
set_option maxHeartbeats 4000000 in
theorem isMix_4n2 (prog wh : Int) (op : UInt8) (vb up qu det dat bare thin : Bool) (anc arc : ByteArray) (an : Option Addr) (nl nc : Nat) (w : World) (hp : prog ≠ 1) (h : wh = 0 ∨ wh = 1 ∨ wh = 2) (hm : mixL op wh up det thin 2 dat qu bare (byL (plW wh)) ≠ []) :
    Calls Tryd.prog 28 #[.agg #[.int .i64 prog, .int .u8 (op.toNat : Int), .bool vb, .bool up, .bool qu, .bool det, .bool dat, .bool bare, .bool thin, .int .i64 2, .int .i64 wh, .string anc, .string arc, .slice an nl nc]] w fun e w' => e = .returned (.bool false) ∧ Below w.heap.size w w' := by
  have HPL := hidK fun W => place_ok wh W h
  have HMF : Hid (∀ W, Calls Tryd.prog 38 #[.agg #[.int .i64 prog, .int .u8 (op.toNat : Int), .bool vb, .bool up, .bool qu, .bool det, .bool dat, .bool bare, .bool thin, .int .i64 2, .int .i64 wh, .string anc, .string arc, .slice an nl nc], .string (plW wh)] W fun e w' => e = .returned (.string (byB (mixL op wh up det thin 2 dat qu bare (byL (plW wh))))) ∧ Below W.heap.size W w') := fun W => misfit_c ⟨prog, op, vb, up, qu, det, dat, bare, thin, 2, wh, anc, arc, []⟩ an nl nc (plW wh) W (plW_ne h)
  obtain ⟨n1, n2⟩ := empL hm
  obtain ⟨M, hM⟩ : ∃ M, M = byB (mixL op wh up det thin 2 dat qu bare (byL (plW wh))) := ⟨_, rfl⟩
  rw [← hM] at HMF n1 n2
  obtain ⟨q, hq⟩ : ∃ q, q = plW wh := ⟨_, rfl⟩
  rw [← hq] at HPL HMF
  have gp : (prog == 1) = false := by simp [hp]
  clear hq h hm hp hM
  obtain ⟨on, hon⟩ : ∃ on : Int, on = (op.toNat : Int) := ⟨_, rfl⟩
  try rw [← hon] at HFL
  try rw [← hon] at HMF
  rw [← hon]
  clear hon
  obtain ⟨w1, hw1⟩ : ∃ w1, w.alloc (.cells #[.int .i64 prog, .int .u8 on, .bool vb, .bool up, .bool qu, .bool det, .bool dat, .bool bare, .bool thin, .int .i64 2, .int .i64 wh, .string anc, .string arc, .slice an nl nc] 27) = w1 := ⟨_, rfl⟩
  have hP := heap_alloc_new w (.cells #[.int .i64 prog, .int .u8 on, .bool vb, .bool up, .bool qu, .bool det, .bool dat, .bool bare, .bool thin, .int .i64 2, .int .i64 wh, .string anc, .string arc, .slice an nl nc] 27)
  have hB : Below w.heap.size w w1 := by rw [← hw1]; exact bupK (Below.refl _ _) _
  rw [hw1] at hP
  have x0 := cell_rowK hP 0 _ rfl
  have x9 := cell_rowK hP 9 _ rfl
  have x10 := cell_rowK hP 10 _ rfl
  go_enter Tryd.func28, Tryd.ntmps28
  go_upto_region 1 with fail
  try rw [hw1]
  clear hw1
  go_wp2_with (first
    | (go_at_call 30; refine (HPL.out _).mono ?_; rintro e w2 ⟨rfl, hw2⟩; rw [hw2]; clear hw2)
    | (go_at_call 38; refine (HMF.out _).mono ?_; rintro e w3 ⟨rfl, b3⟩)
    | (refine wpList_load_row rfl _ _ rfl w.heap.size rfl _ #[.int .i64 prog, .int .u8 on, .bool vb, .bool up, .bool qu, .bool det, .bool dat, .bool bare, .bool thin, .int .i64 2, .int .i64 wh, .string anc, .string arc, .slice an nl nc] (0, 0) _ hP Tryd.underlying27 rfl (by kernel_rfl) ?_))
  go_ret
  exact ⟨rfl, bel3K hB b3⟩
theorem isMix_c (c : Cm) (an : Option Addr) (nl nc : Nat) (w : World) : ∃ b : Bool, (b = true ↔ mixP c) ∧ Calls Tryd.prog 28 #[.agg (cmL c (.slice an nl nc)).toArray] w fun e w' => e = .returned (.bool b) ∧ Below w.heap.size w w' := by
  obtain ⟨prog, op, vb, up, qu, det, dat, bare, thin, kind, wh, anc, arc, nms⟩ := c
  unfold mixP
  dsimp only
  by_cases h : wh = 0 ∨ wh = 1 ∨ wh = 2
  · by_cases hk : kind = 0 ∨ kind = 2
    · by_cases hp : prog = 1
      · subst hp
        by_cases hw : wh = 0
        · subst hw
          rcases hk with rfl | rfl
          · by_cases h1 : flagsL ⟨1, op, vb, up, qu, det, dat, bare, thin, 0, 0, anc, arc, nms⟩ = []
            · exact ⟨true, by simp [h1], isMix_3e op vb up qu det dat bare thin anc arc an nl nc w h1⟩
            · by_cases h2 : flagsL ⟨1, op, vb, up, qu, det, dat, bare, thin, 0, 0, anc, arc, nms⟩ = [68]
              · exact ⟨true, by simp [h2], isMix_3d op vb up qu det dat bare thin anc arc an nl nc w h2⟩
              · exact ⟨false, by simp [h1, h2], isMix_3n op vb up qu det dat bare thin anc arc an nl nc w h1 h2⟩
          · exact ⟨false, by simp, isMix_3k op vb up qu det dat bare thin anc arc an nl nc w⟩
        · have h12 : wh = 1 ∨ wh = 2 := by omega
          rcases hk with rfl | rfl
          · exact ⟨false, by simp [hw], isMix_3w0 wh op vb up qu det dat bare thin anc arc an nl nc w h12⟩
          · exact ⟨false, by simp, isMix_3w2 wh op vb up qu det dat bare thin anc arc an nl nc w h12⟩
      · rcases hk with rfl | rfl
        · by_cases hm : mixL op wh up det thin 0 dat qu bare (byL (plW wh)) = []
          · exact ⟨true, by simp [h, hp, hm], isMix_4y0 prog wh op vb up qu det dat bare thin anc arc an nl nc w hp h hm⟩
          · exact ⟨false, by simp [hp, hm], isMix_4n0 prog wh op vb up qu det dat bare thin anc arc an nl nc w hp h hm⟩
        · by_cases hm : mixL op wh up det thin 2 dat qu bare (byL (plW wh)) = []
          · exact ⟨true, by simp [h, hp, hm], isMix_4y2 prog wh op vb up qu det dat bare thin anc arc an nl nc w hp h hm⟩
          · exact ⟨false, by simp [hp, hm], isMix_4n2 prog wh op vb up qu det dat bare thin anc arc an nl nc w hp h hm⟩
    · refine ⟨false, ?_, isMix_2 prog kind wh op vb up qu det dat bare thin anc arc an nl nc w h (fun q => hk (.inl q)) (fun q => hk (.inr q))⟩
      constructor
      · intro q; cases q
      · intro q; exact absurd q.2.1 hk
  · refine ⟨false, ?_, isMix_1 prog kind wh op vb up qu det dat bare thin anc arc an nl nc w (fun q => h (.inl q)) (fun q => h (.inr (.inl q))) (fun q => h (.inr (.inr q)))⟩
    constructor
    · intro q; cases q
    · intro q; exact absurd q.1 h
end Go.Proofs.YtmhamlhmmkbkaaaDoor
