
-- whyNoLine.
import Derived.Test.YtmhamlhmmkbkaaaDoorLX
namespace Go.Proofs.YtmhamlhmmkbkaaaDoor
open Go.ChangeShapes Go.WideShapes Go.ChangeAt Go.RowKit
set_option linter.unusedVariables false
set_option maxRecDepth 100000
set_option linter.unusedSimpArgs false
theorem flags_few : ∀ qu det dat bare thin up vb : Bool, (flN qu det dat bare thin up vb 7 = [] ∨ flN qu det dat bare thin up vb 7 = [68]) ↔ ¬ (vb = true ∨ up = true ∨ qu = true ∨ dat = true ∨ bare = true ∨ thin = true) := by
  intro qu det dat bare thin up vb
  cases qu <;> cases det <;> cases dat <;> cases bare <;> cases thin <;> cases up <;> cases vb <;> decide
theorem mixL_emp (op : UInt8) (wh kind : Int) (up det thin dat qu bare : Bool) (p q : List UInt8) (hp : wh ≠ 0 → p ≠ []) (hq : wh ≠ 0 → q ≠ []) : mixL op wh up det thin kind dat qu bare p = [] ↔ mixL op wh up det thin kind dat qu bare q = [] := by
  unfold mixL
  by_cases h : wh ≠ 0 ∧ ¬ (op = 109 ∨ op = 114)
  · rw [if_pos h, if_pos h]
    exact ⟨fun e => absurd e (hp h.1), fun e => absurd e (hq h.1)⟩
  · rw [if_neg h, if_neg h]
theorem ref_mix {c : Cm} (h0 : ¬ (c.prog ≠ 0 ∧ c.prog ≠ 1)) (h1 : ¬ (known c.op = false ∨ (c.prog = 1 ∧ c.op ≠ 115))) (hm : ¬ mixP c) : refC c = 155 := by
  obtain ⟨prog, op, vb, up, qu, det, dat, bare, thin, kind, wh, anc, arc, nms⟩ := c
  unfold mixP at hm
  unfold refC
  dsimp only at h0 h1 hm ⊢
  rw [if_neg h0, if_neg h1]
  by_cases h2 : (kind ≠ 0 ∧ kind ≠ 2) ∨ wh < 0 ∨ 2 < wh
  · rw [if_pos h2]
  rw [if_neg h2]
  have hw : wh = 0 ∨ wh = 1 ∨ wh = 2 := by omega
  have hk : kind = 0 ∨ kind = 2 := by omega
  by_cases hp : prog = 1
  · by_cases h3 : prog = 1 ∧ (vb = true ∨ up = true ∨ qu = true ∨ dat = true ∨ bare = true ∨ thin = true ∨ kind = 2 ∨ wh ≠ 0)
    · rw [if_pos h3]
    · exfalso
      have h4 : ¬ (vb = true ∨ up = true ∨ qu = true ∨ dat = true ∨ bare = true ∨ thin = true ∨ kind = 2 ∨ wh ≠ 0) := fun q => h3 ⟨hp, q⟩
      have hf := (flags_few qu det dat bare thin up vb).2 (fun q => h4 (by rcases q with q | q | q | q | q | q <;> simp [q]))
      refine hm ⟨hw, hk, .inl ⟨hp, ?_, ?_, hf⟩⟩
      · by_cases e : wh = 0
        · exact e
        · exact absurd (by simp [e]) h4
      · by_cases e : kind = 2
        · exact absurd (by simp [e]) h4
        · omega
  · rw [if_neg (fun q => hp q.1)]
    have h5 : mixC ⟨prog, op, vb, up, qu, det, dat, bare, thin, kind, wh, anc, arc, nms⟩ ≠ [] := by
      intro e
      unfold mixC at e
      refine hm ⟨hw, hk, .inr ⟨hp, ?_⟩⟩
      exact (mixL_emp op wh kind up det thin dat qu bare _ [97] (fun q => (plW_ne hw).1 q) (fun _ => by simp)).2 e
    rw [if_pos h5]
theorem ref_go {c : Cm} (h0 : ¬ (c.prog ≠ 0 ∧ c.prog ≠ 1)) (h1 : ¬ (known c.op = false ∨ (c.prog = 1 ∧ c.op ≠ 115))) (hm : mixP c) : refC c = (if c.wh = 0 ∧ c.anc ≠ ⟨#[]⟩ then 157
  else if c.wh ≠ 0 ∧ dsh c.anc = true then 157
  else if c.wh = 0 ∧ dsh c.arc = true then 156
  else 0) := by
  obtain ⟨prog, op, vb, up, qu, det, dat, bare, thin, kind, wh, anc, arc, nms⟩ := c
  unfold mixP at hm
  unfold refC
  dsimp only at h0 h1 hm ⊢
  obtain ⟨hw, hk, hor⟩ := hm
  rw [if_neg h0, if_neg h1, if_neg (by omega)]
  rcases hor with ⟨hp, e0, ek, hf⟩ | ⟨hp, hx⟩
  · have hf2 := (flags_few qu det dat bare thin up vb).1 hf
    have hno : ¬ (vb = true ∨ up = true ∨ qu = true ∨ dat = true ∨ bare = true ∨ thin = true ∨ kind = 2 ∨ wh ≠ 0) := by
      intro q
      rcases q with q | q | q | q | q | q | q | q
      · exact hf2 (by simp [q])
      · exact hf2 (by simp [q])
      · exact hf2 (by simp [q])
      · exact hf2 (by simp [q])
      · exact hf2 (by simp [q])
      · exact hf2 (by simp [q])
      · omega
      · omega
    rw [if_neg (fun q => hno q.2)]
    have hmc : mixC ⟨prog, op, vb, up, qu, det, dat, bare, thin, kind, wh, anc, arc, nms⟩ = [] := by
      unfold mixC mixL
      dsimp only
      have f1 : ¬ up = true := fun q => hf2 (by simp [q])
      have f2 : ¬ thin = true := fun q => hf2 (by simp [q])
      have f3 : ¬ dat = true := fun q => hf2 (by simp [q])
      have f4 : ¬ qu = true := fun q => hf2 (by simp [q])
      have f5 : ¬ bare = true := fun q => hf2 (by simp [q])
      rw [if_neg (fun q => q.1 e0), if_neg (fun q => f1 q.1), if_neg (fun q => f1 q.1), if_neg (fun q => f2 q.1), if_neg (fun q => f2 q.1), if_neg (fun q => f3 q.1), if_neg (fun q => f4 q.1), if_neg (fun q => f5 q.1)]
    rw [if_neg (fun q => q hmc)]
  · rw [if_neg (fun q => hp q.1)]
    have hmc : mixC ⟨prog, op, vb, up, qu, det, dat, bare, thin, kind, wh, anc, arc, nms⟩ = [] := by
      unfold mixC
      exact (mixL_emp op wh kind up det thin dat qu bare _ [97] (fun q => (plW_ne hw).1 q) (fun _ => by simp)).1 hx
    rw [if_neg (fun q => q hmc)]
theorem known_has (op : UInt8) : (byL ⟨#[100, 109, 112, 113, 114, 115, 116, 120]⟩).contains op = known op := by
  have : ∀ k : Fin 256, (byL ⟨#[100, 109, 112, 113, 114, 115, 116, 120]⟩).contains (UInt8.ofNat k.val) = known (UInt8.ofNat k.val) := by decide +kernel
  have h := this ⟨op.toNat, op.toNat_lt⟩
  simpa using h
set_option maxHeartbeats 4000000 in
theorem why_a (prog on wh : Int) (anc : ByteArray) (vb up qu det dat bare thin : Bool) (kind : Int) (arc : ByteArray) (an : Option Addr) (nl nc : Nat) (w : World) (h0 : prog ≠ 0) (h1 : prog ≠ 1) :
    Calls Tryd.prog 16 #[.agg #[.int .i64 prog, .int .u8 on, .bool vb, .bool up, .bool qu, .bool det, .bool dat, .bool bare, .bool thin, .int .i64 kind, .int .i64 wh, .string anc, .string arc, .slice an nl nc]] w fun e w' => e = .returned (.int .i64 150) ∧ Below w.heap.size w w' := by
  have g0 : (prog != 0) = true := by simp [h0]
  have g1 : (prog != 1) = true := by simp [h1]
  clear h0 h1
  obtain ⟨w1, hw1⟩ : ∃ w1, w.alloc (.cells #[.int .i64 prog, .int .u8 on, .bool vb, .bool up, .bool qu, .bool det, .bool dat, .bool bare, .bool thin, .int .i64 kind, .int .i64 wh, .string anc, .string arc, .slice an nl nc] 27) = w1 := ⟨_, rfl⟩
  have hP := heap_alloc_new w (.cells #[.int .i64 prog, .int .u8 on, .bool vb, .bool up, .bool qu, .bool det, .bool dat, .bool bare, .bool thin, .int .i64 kind, .int .i64 wh, .string anc, .string arc, .slice an nl nc] 27)
  have hB : Below w.heap.size w w1 := by rw [← hw1]; exact bupK (Below.refl _ _) _
  rw [hw1] at hP
  have x0 := cell_rowK hP 0 _ rfl
  have x1 := cell_rowK hP 1 _ rfl
  have x10 := cell_rowK hP 10 _ rfl
  go_enter Tryd.func16, Tryd.ntmps16
  go_upto_region 1 with fail
  try rw [hw1]
  clear hw1
  go_wp2_with (first
    | fail)
  go_ret
  exact ⟨rfl, hB⟩
set_option maxHeartbeats 4000000 in
theorem why_b0 (on wh : Int) (anc : ByteArray) (vb up qu det dat bare thin : Bool) (kind : Int) (arc : ByteArray) (an : Option Addr) (nl nc : Nat) (w : World) (HIO : Hid (∀ W, Calls Tryd.prog 27 #[.int .u8 on, .string ⟨#[100, 109, 112, 113, 114, 115, 116, 120]⟩] W fun e w' => e = .returned (.bool false) ∧ w' = W)) :
    Calls Tryd.prog 16 #[.agg #[.int .i64 0, .int .u8 on, .bool vb, .bool up, .bool qu, .bool det, .bool dat, .bool bare, .bool thin, .int .i64 kind, .int .i64 wh, .string anc, .string arc, .slice an nl nc]] w fun e w' => e = .returned (.int .i64 151) ∧ Below w.heap.size w w' := by
  obtain ⟨w1, hw1⟩ : ∃ w1, w.alloc (.cells #[.int .i64 0, .int .u8 on, .bool vb, .bool up, .bool qu, .bool det, .bool dat, .bool bare, .bool thin, .int .i64 kind, .int .i64 wh, .string anc, .string arc, .slice an nl nc] 27) = w1 := ⟨_, rfl⟩
  have hP := heap_alloc_new w (.cells #[.int .i64 0, .int .u8 on, .bool vb, .bool up, .bool qu, .bool det, .bool dat, .bool bare, .bool thin, .int .i64 kind, .int .i64 wh, .string anc, .string arc, .slice an nl nc] 27)
  have hB : Below w.heap.size w w1 := by rw [← hw1]; exact bupK (Below.refl _ _) _
  rw [hw1] at hP
  have x0 := cell_rowK hP 0 _ rfl
  have x1 := cell_rowK hP 1 _ rfl
  have x10 := cell_rowK hP 10 _ rfl
  go_enter Tryd.func16, Tryd.ntmps16
  go_upto_region 1 with fail
  try rw [hw1]
  clear hw1
  go_wp2_with (first
    | (go_at_call 27; refine (HIO.out _).mono ?_; rintro e w2 ⟨rfl, hw2⟩; rw [hw2]; clear hw2)
    | fail)
  go_ret
  exact ⟨rfl, hB⟩
set_option maxHeartbeats 4000000 in
theorem why_b1 (on wh : Int) (anc : ByteArray) (vb up qu det dat bare thin : Bool) (kind : Int) (arc : ByteArray) (an : Option Addr) (nl nc : Nat) (w : World) (HIO : Hid (∀ W, Calls Tryd.prog 27 #[.int .u8 on, .string ⟨#[100, 109, 112, 113, 114, 115, 116, 120]⟩] W fun e w' => e = .returned (.bool false) ∧ w' = W)) :
    Calls Tryd.prog 16 #[.agg #[.int .i64 1, .int .u8 on, .bool vb, .bool up, .bool qu, .bool det, .bool dat, .bool bare, .bool thin, .int .i64 kind, .int .i64 wh, .string anc, .string arc, .slice an nl nc]] w fun e w' => e = .returned (.int .i64 151) ∧ Below w.heap.size w w' := by
  obtain ⟨w1, hw1⟩ : ∃ w1, w.alloc (.cells #[.int .i64 1, .int .u8 on, .bool vb, .bool up, .bool qu, .bool det, .bool dat, .bool bare, .bool thin, .int .i64 kind, .int .i64 wh, .string anc, .string arc, .slice an nl nc] 27) = w1 := ⟨_, rfl⟩
  have hP := heap_alloc_new w (.cells #[.int .i64 1, .int .u8 on, .bool vb, .bool up, .bool qu, .bool det, .bool dat, .bool bare, .bool thin, .int .i64 kind, .int .i64 wh, .string anc, .string arc, .slice an nl nc] 27)
  have hB : Below w.heap.size w w1 := by rw [← hw1]; exact bupK (Below.refl _ _) _
  rw [hw1] at hP
  have x0 := cell_rowK hP 0 _ rfl
  have x1 := cell_rowK hP 1 _ rfl
  have x10 := cell_rowK hP 10 _ rfl
  go_enter Tryd.func16, Tryd.ntmps16
  go_upto_region 1 with fail
  try rw [hw1]
  clear hw1
  go_wp2_with (first
    | (go_at_call 27; refine (HIO.out _).mono ?_; rintro e w2 ⟨rfl, hw2⟩; rw [hw2]; clear hw2)
    | fail)
  go_ret
  exact ⟨rfl, hB⟩
set_option maxHeartbeats 4000000 in
theorem why_b2 (on wh : Int) (anc : ByteArray) (vb up qu det dat bare thin : Bool) (kind : Int) (arc : ByteArray) (an : Option Addr) (nl nc : Nat) (w : World) (ho : (on != 115) = true) (HIO : Hid (∀ W, Calls Tryd.prog 27 #[.int .u8 on, .string ⟨#[100, 109, 112, 113, 114, 115, 116, 120]⟩] W fun e w' => e = .returned (.bool true) ∧ w' = W)) :
    Calls Tryd.prog 16 #[.agg #[.int .i64 1, .int .u8 on, .bool vb, .bool up, .bool qu, .bool det, .bool dat, .bool bare, .bool thin, .int .i64 kind, .int .i64 wh, .string anc, .string arc, .slice an nl nc]] w fun e w' => e = .returned (.int .i64 151) ∧ Below w.heap.size w w' := by
  obtain ⟨w1, hw1⟩ : ∃ w1, w.alloc (.cells #[.int .i64 1, .int .u8 on, .bool vb, .bool up, .bool qu, .bool det, .bool dat, .bool bare, .bool thin, .int .i64 kind, .int .i64 wh, .string anc, .string arc, .slice an nl nc] 27) = w1 := ⟨_, rfl⟩
  have hP := heap_alloc_new w (.cells #[.int .i64 1, .int .u8 on, .bool vb, .bool up, .bool qu, .bool det, .bool dat, .bool bare, .bool thin, .int .i64 kind, .int .i64 wh, .string anc, .string arc, .slice an nl nc] 27)
  have hB : Below w.heap.size w w1 := by rw [← hw1]; exact bupK (Below.refl _ _) _
  rw [hw1] at hP
  have x0 := cell_rowK hP 0 _ rfl
  have x1 := cell_rowK hP 1 _ rfl
  have x10 := cell_rowK hP 10 _ rfl
  go_enter Tryd.func16, Tryd.ntmps16
  go_upto_region 1 with fail
  try rw [hw1]
  clear hw1
  go_wp2_with (first
    | (go_at_call 27; refine (HIO.out _).mono ?_; rintro e w2 ⟨rfl, hw2⟩; rw [hw2]; clear hw2)
    | fail)
  go_ret
  exact ⟨rfl, hB⟩
set_option maxHeartbeats 4000000 in
theorem why_c0 (on : Int) (wh : Int) (anc : ByteArray) (vb up qu det dat bare thin : Bool) (kind : Int) (arc : ByteArray) (an : Option Addr) (nl nc : Nat) (w : World) (HIO : Hid (∀ W, Calls Tryd.prog 27 #[.int .u8 on, .string ⟨#[100, 109, 112, 113, 114, 115, 116, 120]⟩] W fun e w' => e = .returned (.bool true) ∧ w' = W)) (HMX : Hid (∀ W, Calls Tryd.prog 28 #[.agg #[.int .i64 0, .int .u8 on, .bool vb, .bool up, .bool qu, .bool det, .bool dat, .bool bare, .bool thin, .int .i64 kind, .int .i64 wh, .string anc, .string arc, .slice an nl nc]] W fun e w' => e = .returned (.bool false) ∧ Below W.heap.size W w')) :
    Calls Tryd.prog 16 #[.agg #[.int .i64 0, .int .u8 on, .bool vb, .bool up, .bool qu, .bool det, .bool dat, .bool bare, .bool thin, .int .i64 kind, .int .i64 wh, .string anc, .string arc, .slice an nl nc]] w fun e w' => e = .returned (.int .i64 155) ∧ Below w.heap.size w w' := by
  have HKW : Hid (∀ W : World, Calls Tryd.prog 29 #[.string arc] W fun e w' => e = .returned (.bool (dsh arc)) ∧ w' = W) := fun W => dsh_c arc W
  obtain ⟨w1, hw1⟩ : ∃ w1, w.alloc (.cells #[.int .i64 0, .int .u8 on, .bool vb, .bool up, .bool qu, .bool det, .bool dat, .bool bare, .bool thin, .int .i64 kind, .int .i64 wh, .string anc, .string arc, .slice an nl nc] 27) = w1 := ⟨_, rfl⟩
  have hP := heap_alloc_new w (.cells #[.int .i64 0, .int .u8 on, .bool vb, .bool up, .bool qu, .bool det, .bool dat, .bool bare, .bool thin, .int .i64 kind, .int .i64 wh, .string anc, .string arc, .slice an nl nc] 27)
  have hB : Below w.heap.size w w1 := by rw [← hw1]; exact bupK (Below.refl _ _) _
  rw [hw1] at hP
  have x0 := cell_rowK hP 0 _ rfl
  have x1 := cell_rowK hP 1 _ rfl
  have x10 := cell_rowK hP 10 _ rfl
  go_enter Tryd.func16, Tryd.ntmps16
  go_upto_region 1 with fail
  try rw [hw1]
  clear hw1
  go_wp2_with (first
    | (go_at_call 27; refine (HIO.out _).mono ?_; rintro e w2 ⟨rfl, hw2⟩; rw [hw2]; clear hw2)
    | (go_at_call 28; refine (HMX.out _).mono ?_; rintro e w3 ⟨rfl, b3⟩; have y11 := cell_onG (cell_rowK hP 11 _ rfl) b3; have y12 := cell_onG (cell_rowK hP 12 _ rfl) b3)
    | (go_at_call 29; refine (HKW.out _).mono ?_; rintro e w4 ⟨rfl, hw4⟩; rw [hw4]; clear hw4)
    | (refine wpList_load_row rfl _ _ rfl w.heap.size rfl _ #[.int .i64 0, .int .u8 on, .bool vb, .bool up, .bool qu, .bool det, .bool dat, .bool bare, .bool thin, .int .i64 kind, .int .i64 wh, .string anc, .string arc, .slice an nl nc] (0, 0) _ hP Tryd.underlying27 rfl (by kernel_rfl) ?_))
  go_ret
  exact ⟨rfl, bel3K hB b3⟩
set_option maxHeartbeats 4000000 in
theorem why_o10 (on : Int) (anc : ByteArray) (vb up qu det dat bare thin : Bool) (kind : Int) (arc : ByteArray) (an : Option Addr) (nl nc : Nat) (w : World) (HIO : Hid (∀ W, Calls Tryd.prog 27 #[.int .u8 on, .string ⟨#[100, 109, 112, 113, 114, 115, 116, 120]⟩] W fun e w' => e = .returned (.bool true) ∧ w' = W)) (HMX : Hid (∀ W, Calls Tryd.prog 28 #[.agg #[.int .i64 0, .int .u8 on, .bool vb, .bool up, .bool qu, .bool det, .bool dat, .bool bare, .bool thin, .int .i64 kind, .int .i64 0, .string anc, .string arc, .slice an nl nc]] W fun e w' => e = .returned (.bool true) ∧ Below W.heap.size W w')) (n1 : (anc.toList == []) = false) (n2 : anc.toList.isEmpty = false) :
    Calls Tryd.prog 16 #[.agg #[.int .i64 0, .int .u8 on, .bool vb, .bool up, .bool qu, .bool det, .bool dat, .bool bare, .bool thin, .int .i64 kind, .int .i64 0, .string anc, .string arc, .slice an nl nc]] w fun e w' => e = .returned (.int .i64 157) ∧ Below w.heap.size w w' := by
  have HKW : Hid (∀ W : World, Calls Tryd.prog 29 #[.string arc] W fun e w' => e = .returned (.bool (dsh arc)) ∧ w' = W) := fun W => dsh_c arc W
  obtain ⟨w1, hw1⟩ : ∃ w1, w.alloc (.cells #[.int .i64 0, .int .u8 on, .bool vb, .bool up, .bool qu, .bool det, .bool dat, .bool bare, .bool thin, .int .i64 kind, .int .i64 0, .string anc, .string arc, .slice an nl nc] 27) = w1 := ⟨_, rfl⟩
  have hP := heap_alloc_new w (.cells #[.int .i64 0, .int .u8 on, .bool vb, .bool up, .bool qu, .bool det, .bool dat, .bool bare, .bool thin, .int .i64 kind, .int .i64 0, .string anc, .string arc, .slice an nl nc] 27)
  have hB : Below w.heap.size w w1 := by rw [← hw1]; exact bupK (Below.refl _ _) _
  rw [hw1] at hP
  have x0 := cell_rowK hP 0 _ rfl
  have x1 := cell_rowK hP 1 _ rfl
  have x10 := cell_rowK hP 10 _ rfl
  go_enter Tryd.func16, Tryd.ntmps16
  go_upto_region 1 with fail
  try rw [hw1]
  clear hw1
  go_wp2_with (first
    | (go_at_call 27; refine (HIO.out _).mono ?_; rintro e w2 ⟨rfl, hw2⟩; rw [hw2]; clear hw2)
    | (go_at_call 28; refine (HMX.out _).mono ?_; rintro e w3 ⟨rfl, b3⟩; have y11 := cell_onG (cell_rowK hP 11 _ rfl) b3; have y12 := cell_onG (cell_rowK hP 12 _ rfl) b3)
    | (go_at_call 29; refine (HKW.out _).mono ?_; rintro e w4 ⟨rfl, hw4⟩; rw [hw4]; clear hw4)
    | (refine wpList_load_row rfl _ _ rfl w.heap.size rfl _ #[.int .i64 0, .int .u8 on, .bool vb, .bool up, .bool qu, .bool det, .bool dat, .bool bare, .bool thin, .int .i64 kind, .int .i64 0, .string anc, .string arc, .slice an nl nc] (0, 0) _ hP Tryd.underlying27 rfl (by kernel_rfl) ?_))
  go_ret
  exact ⟨rfl, bel3K hB b3⟩
set_option maxHeartbeats 4000000 in
theorem why_o20 (on : Int)  (vb up qu det dat bare thin : Bool) (kind : Int) (arc : ByteArray) (an : Option Addr) (nl nc : Nat) (w : World) (HIO : Hid (∀ W, Calls Tryd.prog 27 #[.int .u8 on, .string ⟨#[100, 109, 112, 113, 114, 115, 116, 120]⟩] W fun e w' => e = .returned (.bool true) ∧ w' = W)) (HMX : Hid (∀ W, Calls Tryd.prog 28 #[.agg #[.int .i64 0, .int .u8 on, .bool vb, .bool up, .bool qu, .bool det, .bool dat, .bool bare, .bool thin, .int .i64 kind, .int .i64 0, .string ⟨#[]⟩, .string arc, .slice an nl nc]] W fun e w' => e = .returned (.bool true) ∧ Below W.heap.size W w')) (HKW : Hid (∀ W, Calls Tryd.prog 29 #[.string arc] W fun e w' => e = .returned (.bool true) ∧ w' = W)) :
    Calls Tryd.prog 16 #[.agg #[.int .i64 0, .int .u8 on, .bool vb, .bool up, .bool qu, .bool det, .bool dat, .bool bare, .bool thin, .int .i64 kind, .int .i64 0, .string ⟨#[]⟩, .string arc, .slice an nl nc]] w fun e w' => e = .returned (.int .i64 156) ∧ Below w.heap.size w w' := by
  obtain ⟨w1, hw1⟩ : ∃ w1, w.alloc (.cells #[.int .i64 0, .int .u8 on, .bool vb, .bool up, .bool qu, .bool det, .bool dat, .bool bare, .bool thin, .int .i64 kind, .int .i64 0, .string ⟨#[]⟩, .string arc, .slice an nl nc] 27) = w1 := ⟨_, rfl⟩
  have hP := heap_alloc_new w (.cells #[.int .i64 0, .int .u8 on, .bool vb, .bool up, .bool qu, .bool det, .bool dat, .bool bare, .bool thin, .int .i64 kind, .int .i64 0, .string ⟨#[]⟩, .string arc, .slice an nl nc] 27)
  have hB : Below w.heap.size w w1 := by rw [← hw1]; exact bupK (Below.refl _ _) _
  rw [hw1] at hP
  have x0 := cell_rowK hP 0 _ rfl
  have x1 := cell_rowK hP 1 _ rfl
  have x10 := cell_rowK hP 10 _ rfl
  go_enter Tryd.func16, Tryd.ntmps16
  go_upto_region 1 with fail
  try rw [hw1]
  clear hw1
  go_wp2_with (first
    | (go_at_call 27; refine (HIO.out _).mono ?_; rintro e w2 ⟨rfl, hw2⟩; rw [hw2]; clear hw2)
    | (go_at_call 28; refine (HMX.out _).mono ?_; rintro e w3 ⟨rfl, b3⟩; have y11 := cell_onG (cell_rowK hP 11 _ rfl) b3; have y12 := cell_onG (cell_rowK hP 12 _ rfl) b3)
    | (go_at_call 29; refine (HKW.out _).mono ?_; rintro e w4 ⟨rfl, hw4⟩; rw [hw4]; clear hw4)
    | (refine wpList_load_row rfl _ _ rfl w.heap.size rfl _ #[.int .i64 0, .int .u8 on, .bool vb, .bool up, .bool qu, .bool det, .bool dat, .bool bare, .bool thin, .int .i64 kind, .int .i64 0, .string ⟨#[]⟩, .string arc, .slice an nl nc] (0, 0) _ hP Tryd.underlying27 rfl (by kernel_rfl) ?_))
  go_ret
  exact ⟨rfl, bel3K hB b3⟩
set_option maxHeartbeats 4000000 in
theorem why_o30 (on : Int)  (vb up qu det dat bare thin : Bool) (kind : Int) (arc : ByteArray) (an : Option Addr) (nl nc : Nat) (w : World) (HIO : Hid (∀ W, Calls Tryd.prog 27 #[.int .u8 on, .string ⟨#[100, 109, 112, 113, 114, 115, 116, 120]⟩] W fun e w' => e = .returned (.bool true) ∧ w' = W)) (HMX : Hid (∀ W, Calls Tryd.prog 28 #[.agg #[.int .i64 0, .int .u8 on, .bool vb, .bool up, .bool qu, .bool det, .bool dat, .bool bare, .bool thin, .int .i64 kind, .int .i64 0, .string ⟨#[]⟩, .string arc, .slice an nl nc]] W fun e w' => e = .returned (.bool true) ∧ Below W.heap.size W w')) (HKW : Hid (∀ W, Calls Tryd.prog 29 #[.string arc] W fun e w' => e = .returned (.bool false) ∧ w' = W)) :
    Calls Tryd.prog 16 #[.agg #[.int .i64 0, .int .u8 on, .bool vb, .bool up, .bool qu, .bool det, .bool dat, .bool bare, .bool thin, .int .i64 kind, .int .i64 0, .string ⟨#[]⟩, .string arc, .slice an nl nc]] w fun e w' => e = .returned (.int .i64 0) ∧ Below w.heap.size w w' := by
  obtain ⟨w1, hw1⟩ : ∃ w1, w.alloc (.cells #[.int .i64 0, .int .u8 on, .bool vb, .bool up, .bool qu, .bool det, .bool dat, .bool bare, .bool thin, .int .i64 kind, .int .i64 0, .string ⟨#[]⟩, .string arc, .slice an nl nc] 27) = w1 := ⟨_, rfl⟩
  have hP := heap_alloc_new w (.cells #[.int .i64 0, .int .u8 on, .bool vb, .bool up, .bool qu, .bool det, .bool dat, .bool bare, .bool thin, .int .i64 kind, .int .i64 0, .string ⟨#[]⟩, .string arc, .slice an nl nc] 27)
  have hB : Below w.heap.size w w1 := by rw [← hw1]; exact bupK (Below.refl _ _) _
  rw [hw1] at hP
  have x0 := cell_rowK hP 0 _ rfl
  have x1 := cell_rowK hP 1 _ rfl
  have x10 := cell_rowK hP 10 _ rfl
  go_enter Tryd.func16, Tryd.ntmps16
  go_upto_region 1 with fail
  try rw [hw1]
  clear hw1
  go_wp2_with (first
    | (go_at_call 27; refine (HIO.out _).mono ?_; rintro e w2 ⟨rfl, hw2⟩; rw [hw2]; clear hw2)
    | (go_at_call 28; refine (HMX.out _).mono ?_; rintro e w3 ⟨rfl, b3⟩; have y11 := cell_onG (cell_rowK hP 11 _ rfl) b3; have y12 := cell_onG (cell_rowK hP 12 _ rfl) b3)
    | (go_at_call 29; refine (HKW.out _).mono ?_; rintro e w4 ⟨rfl, hw4⟩; rw [hw4]; clear hw4)
    | (refine wpList_load_row rfl _ _ rfl w.heap.size rfl _ #[.int .i64 0, .int .u8 on, .bool vb, .bool up, .bool qu, .bool det, .bool dat, .bool bare, .bool thin, .int .i64 kind, .int .i64 0, .string ⟨#[]⟩, .string arc, .slice an nl nc] (0, 0) _ hP Tryd.underlying27 rfl (by kernel_rfl) ?_))
  go_ret
  exact ⟨rfl, bel3K hB b3⟩
set_option maxHeartbeats 4000000 in
theorem why_o40 (on : Int) (wh : Int) (anc : ByteArray) (vb up qu det dat bare thin : Bool) (kind : Int) (arc : ByteArray) (an : Option Addr) (nl nc : Nat) (w : World) (HIO : Hid (∀ W, Calls Tryd.prog 27 #[.int .u8 on, .string ⟨#[100, 109, 112, 113, 114, 115, 116, 120]⟩] W fun e w' => e = .returned (.bool true) ∧ w' = W)) (HMX : Hid (∀ W, Calls Tryd.prog 28 #[.agg #[.int .i64 0, .int .u8 on, .bool vb, .bool up, .bool qu, .bool det, .bool dat, .bool bare, .bool thin, .int .i64 kind, .int .i64 wh, .string anc, .string arc, .slice an nl nc]] W fun e w' => e = .returned (.bool true) ∧ Below W.heap.size W w')) (hz : (wh == 0) = false) (HKW : Hid (∀ W, Calls Tryd.prog 29 #[.string anc] W fun e w' => e = .returned (.bool true) ∧ w' = W)) :
    Calls Tryd.prog 16 #[.agg #[.int .i64 0, .int .u8 on, .bool vb, .bool up, .bool qu, .bool det, .bool dat, .bool bare, .bool thin, .int .i64 kind, .int .i64 wh, .string anc, .string arc, .slice an nl nc]] w fun e w' => e = .returned (.int .i64 157) ∧ Below w.heap.size w w' := by
  obtain ⟨w1, hw1⟩ : ∃ w1, w.alloc (.cells #[.int .i64 0, .int .u8 on, .bool vb, .bool up, .bool qu, .bool det, .bool dat, .bool bare, .bool thin, .int .i64 kind, .int .i64 wh, .string anc, .string arc, .slice an nl nc] 27) = w1 := ⟨_, rfl⟩
  have hP := heap_alloc_new w (.cells #[.int .i64 0, .int .u8 on, .bool vb, .bool up, .bool qu, .bool det, .bool dat, .bool bare, .bool thin, .int .i64 kind, .int .i64 wh, .string anc, .string arc, .slice an nl nc] 27)
  have hB : Below w.heap.size w w1 := by rw [← hw1]; exact bupK (Below.refl _ _) _
  rw [hw1] at hP
  have x0 := cell_rowK hP 0 _ rfl
  have x1 := cell_rowK hP 1 _ rfl
  have x10 := cell_rowK hP 10 _ rfl
  go_enter Tryd.func16, Tryd.ntmps16
  go_upto_region 1 with fail
  try rw [hw1]
  clear hw1
  go_wp2_with (first
    | (go_at_call 27; refine (HIO.out _).mono ?_; rintro e w2 ⟨rfl, hw2⟩; rw [hw2]; clear hw2)
    | (go_at_call 28; refine (HMX.out _).mono ?_; rintro e w3 ⟨rfl, b3⟩; have y11 := cell_onG (cell_rowK hP 11 _ rfl) b3; have y12 := cell_onG (cell_rowK hP 12 _ rfl) b3)
    | (go_at_call 29; refine (HKW.out _).mono ?_; rintro e w4 ⟨rfl, hw4⟩; rw [hw4]; clear hw4)
    | (refine wpList_load_row rfl _ _ rfl w.heap.size rfl _ #[.int .i64 0, .int .u8 on, .bool vb, .bool up, .bool qu, .bool det, .bool dat, .bool bare, .bool thin, .int .i64 kind, .int .i64 wh, .string anc, .string arc, .slice an nl nc] (0, 0) _ hP Tryd.underlying27 rfl (by kernel_rfl) ?_))
  go_ret
  exact ⟨rfl, bel3K hB b3⟩
set_option maxHeartbeats 4000000 in
theorem why_o50 (on : Int) (wh : Int) (anc : ByteArray) (vb up qu det dat bare thin : Bool) (kind : Int) (arc : ByteArray) (an : Option Addr) (nl nc : Nat) (w : World) (HIO : Hid (∀ W, Calls Tryd.prog 27 #[.int .u8 on, .string ⟨#[100, 109, 112, 113, 114, 115, 116, 120]⟩] W fun e w' => e = .returned (.bool true) ∧ w' = W)) (HMX : Hid (∀ W, Calls Tryd.prog 28 #[.agg #[.int .i64 0, .int .u8 on, .bool vb, .bool up, .bool qu, .bool det, .bool dat, .bool bare, .bool thin, .int .i64 kind, .int .i64 wh, .string anc, .string arc, .slice an nl nc]] W fun e w' => e = .returned (.bool true) ∧ Below W.heap.size W w')) (hz : (wh == 0) = false) (HKW : Hid (∀ W, Calls Tryd.prog 29 #[.string anc] W fun e w' => e = .returned (.bool false) ∧ w' = W)) :
    Calls Tryd.prog 16 #[.agg #[.int .i64 0, .int .u8 on, .bool vb, .bool up, .bool qu, .bool det, .bool dat, .bool bare, .bool thin, .int .i64 kind, .int .i64 wh, .string anc, .string arc, .slice an nl nc]] w fun e w' => e = .returned (.int .i64 0) ∧ Below w.heap.size w w' := by
  obtain ⟨w1, hw1⟩ : ∃ w1, w.alloc (.cells #[.int .i64 0, .int .u8 on, .bool vb, .bool up, .bool qu, .bool det, .bool dat, .bool bare, .bool thin, .int .i64 kind, .int .i64 wh, .string anc, .string arc, .slice an nl nc] 27) = w1 := ⟨_, rfl⟩
  have hP := heap_alloc_new w (.cells #[.int .i64 0, .int .u8 on, .bool vb, .bool up, .bool qu, .bool det, .bool dat, .bool bare, .bool thin, .int .i64 kind, .int .i64 wh, .string anc, .string arc, .slice an nl nc] 27)
  have hB : Below w.heap.size w w1 := by rw [← hw1]; exact bupK (Below.refl _ _) _
  rw [hw1] at hP
  have x0 := cell_rowK hP 0 _ rfl
  have x1 := cell_rowK hP 1 _ rfl
  have x10 := cell_rowK hP 10 _ rfl
  go_enter Tryd.func16, Tryd.ntmps16
  go_upto_region 1 with fail
  try rw [hw1]
  clear hw1
  go_wp2_with (first
    | (go_at_call 27; refine (HIO.out _).mono ?_; rintro e w2 ⟨rfl, hw2⟩; rw [hw2]; clear hw2)
    | (go_at_call 28; refine (HMX.out _).mono ?_; rintro e w3 ⟨rfl, b3⟩; have y11 := cell_onG (cell_rowK hP 11 _ rfl) b3; have y12 := cell_onG (cell_rowK hP 12 _ rfl) b3)
    | (go_at_call 29; refine (HKW.out _).mono ?_; rintro e w4 ⟨rfl, hw4⟩; rw [hw4]; clear hw4)
    | (refine wpList_load_row rfl _ _ rfl w.heap.size rfl _ #[.int .i64 0, .int .u8 on, .bool vb, .bool up, .bool qu, .bool det, .bool dat, .bool bare, .bool thin, .int .i64 kind, .int .i64 wh, .string anc, .string arc, .slice an nl nc] (0, 0) _ hP Tryd.underlying27 rfl (by kernel_rfl) ?_))
  go_ret
  exact ⟨rfl, bel3K hB b3⟩
set_option maxHeartbeats 4000000 in
theorem why_c1 (wh : Int) (anc : ByteArray) (vb up qu det dat bare thin : Bool) (kind : Int) (arc : ByteArray) (an : Option Addr) (nl nc : Nat) (w : World) (HIO : Hid (∀ W, Calls Tryd.prog 27 #[.int .u8 115, .string ⟨#[100, 109, 112, 113, 114, 115, 116, 120]⟩] W fun e w' => e = .returned (.bool true) ∧ w' = W)) (HMX : Hid (∀ W, Calls Tryd.prog 28 #[.agg #[.int .i64 1, .int .u8 115, .bool vb, .bool up, .bool qu, .bool det, .bool dat, .bool bare, .bool thin, .int .i64 kind, .int .i64 wh, .string anc, .string arc, .slice an nl nc]] W fun e w' => e = .returned (.bool false) ∧ Below W.heap.size W w')) :
    Calls Tryd.prog 16 #[.agg #[.int .i64 1, .int .u8 115, .bool vb, .bool up, .bool qu, .bool det, .bool dat, .bool bare, .bool thin, .int .i64 kind, .int .i64 wh, .string anc, .string arc, .slice an nl nc]] w fun e w' => e = .returned (.int .i64 155) ∧ Below w.heap.size w w' := by
  have HKW : Hid (∀ W : World, Calls Tryd.prog 29 #[.string arc] W fun e w' => e = .returned (.bool (dsh arc)) ∧ w' = W) := fun W => dsh_c arc W
  obtain ⟨w1, hw1⟩ : ∃ w1, w.alloc (.cells #[.int .i64 1, .int .u8 115, .bool vb, .bool up, .bool qu, .bool det, .bool dat, .bool bare, .bool thin, .int .i64 kind, .int .i64 wh, .string anc, .string arc, .slice an nl nc] 27) = w1 := ⟨_, rfl⟩
  have hP := heap_alloc_new w (.cells #[.int .i64 1, .int .u8 115, .bool vb, .bool up, .bool qu, .bool det, .bool dat, .bool bare, .bool thin, .int .i64 kind, .int .i64 wh, .string anc, .string arc, .slice an nl nc] 27)
  have hB : Below w.heap.size w w1 := by rw [← hw1]; exact bupK (Below.refl _ _) _
  rw [hw1] at hP
  have x0 := cell_rowK hP 0 _ rfl
  have x1 := cell_rowK hP 1 _ rfl
  have x10 := cell_rowK hP 10 _ rfl
  go_enter Tryd.func16, Tryd.ntmps16
  go_upto_region 1 with fail
  try rw [hw1]
  clear hw1
  go_wp2_with (first
    | (go_at_call 27; refine (HIO.out _).mono ?_; rintro e w2 ⟨rfl, hw2⟩; rw [hw2]; clear hw2)
    | (go_at_call 28; refine (HMX.out _).mono ?_; rintro e w3 ⟨rfl, b3⟩; have y11 := cell_onG (cell_rowK hP 11 _ rfl) b3; have y12 := cell_onG (cell_rowK hP 12 _ rfl) b3)
    | (go_at_call 29; refine (HKW.out _).mono ?_; rintro e w4 ⟨rfl, hw4⟩; rw [hw4]; clear hw4)
    | (refine wpList_load_row rfl _ _ rfl w.heap.size rfl _ #[.int .i64 1, .int .u8 115, .bool vb, .bool up, .bool qu, .bool det, .bool dat, .bool bare, .bool thin, .int .i64 kind, .int .i64 wh, .string anc, .string arc, .slice an nl nc] (0, 0) _ hP Tryd.underlying27 rfl (by kernel_rfl) ?_))
  go_ret
  exact ⟨rfl, bel3K hB b3⟩
set_option maxHeartbeats 4000000 in
theorem why_o11 (anc : ByteArray) (vb up qu det dat bare thin : Bool) (kind : Int) (arc : ByteArray) (an : Option Addr) (nl nc : Nat) (w : World) (HIO : Hid (∀ W, Calls Tryd.prog 27 #[.int .u8 115, .string ⟨#[100, 109, 112, 113, 114, 115, 116, 120]⟩] W fun e w' => e = .returned (.bool true) ∧ w' = W)) (HMX : Hid (∀ W, Calls Tryd.prog 28 #[.agg #[.int .i64 1, .int .u8 115, .bool vb, .bool up, .bool qu, .bool det, .bool dat, .bool bare, .bool thin, .int .i64 kind, .int .i64 0, .string anc, .string arc, .slice an nl nc]] W fun e w' => e = .returned (.bool true) ∧ Below W.heap.size W w')) (n1 : (anc.toList == []) = false) (n2 : anc.toList.isEmpty = false) :
    Calls Tryd.prog 16 #[.agg #[.int .i64 1, .int .u8 115, .bool vb, .bool up, .bool qu, .bool det, .bool dat, .bool bare, .bool thin, .int .i64 kind, .int .i64 0, .string anc, .string arc, .slice an nl nc]] w fun e w' => e = .returned (.int .i64 157) ∧ Below w.heap.size w w' := by
  have HKW : Hid (∀ W : World, Calls Tryd.prog 29 #[.string arc] W fun e w' => e = .returned (.bool (dsh arc)) ∧ w' = W) := fun W => dsh_c arc W
  obtain ⟨w1, hw1⟩ : ∃ w1, w.alloc (.cells #[.int .i64 1, .int .u8 115, .bool vb, .bool up, .bool qu, .bool det, .bool dat, .bool bare, .bool thin, .int .i64 kind, .int .i64 0, .string anc, .string arc, .slice an nl nc] 27) = w1 := ⟨_, rfl⟩
  have hP := heap_alloc_new w (.cells #[.int .i64 1, .int .u8 115, .bool vb, .bool up, .bool qu, .bool det, .bool dat, .bool bare, .bool thin, .int .i64 kind, .int .i64 0, .string anc, .string arc, .slice an nl nc] 27)
  have hB : Below w.heap.size w w1 := by rw [← hw1]; exact bupK (Below.refl _ _) _
  rw [hw1] at hP
  have x0 := cell_rowK hP 0 _ rfl
  have x1 := cell_rowK hP 1 _ rfl
  have x10 := cell_rowK hP 10 _ rfl
  go_enter Tryd.func16, Tryd.ntmps16
  go_upto_region 1 with fail
  try rw [hw1]
  clear hw1
  go_wp2_with (first
    | (go_at_call 27; refine (HIO.out _).mono ?_; rintro e w2 ⟨rfl, hw2⟩; rw [hw2]; clear hw2)
    | (go_at_call 28; refine (HMX.out _).mono ?_; rintro e w3 ⟨rfl, b3⟩; have y11 := cell_onG (cell_rowK hP 11 _ rfl) b3; have y12 := cell_onG (cell_rowK hP 12 _ rfl) b3)
    | (go_at_call 29; refine (HKW.out _).mono ?_; rintro e w4 ⟨rfl, hw4⟩; rw [hw4]; clear hw4)
    | (refine wpList_load_row rfl _ _ rfl w.heap.size rfl _ #[.int .i64 1, .int .u8 115, .bool vb, .bool up, .bool qu, .bool det, .bool dat, .bool bare, .bool thin, .int .i64 kind, .int .i64 0, .string anc, .string arc, .slice an nl nc] (0, 0) _ hP Tryd.underlying27 rfl (by kernel_rfl) ?_))
  go_ret
  exact ⟨rfl, bel3K hB b3⟩
set_option maxHeartbeats 4000000 in
theorem why_o21  (vb up qu det dat bare thin : Bool) (kind : Int) (arc : ByteArray) (an : Option Addr) (nl nc : Nat) (w : World) (HIO : Hid (∀ W, Calls Tryd.prog 27 #[.int .u8 115, .string ⟨#[100, 109, 112, 113, 114, 115, 116, 120]⟩] W fun e w' => e = .returned (.bool true) ∧ w' = W)) (HMX : Hid (∀ W, Calls Tryd.prog 28 #[.agg #[.int .i64 1, .int .u8 115, .bool vb, .bool up, .bool qu, .bool det, .bool dat, .bool bare, .bool thin, .int .i64 kind, .int .i64 0, .string ⟨#[]⟩, .string arc, .slice an nl nc]] W fun e w' => e = .returned (.bool true) ∧ Below W.heap.size W w')) (HKW : Hid (∀ W, Calls Tryd.prog 29 #[.string arc] W fun e w' => e = .returned (.bool true) ∧ w' = W)) :
    Calls Tryd.prog 16 #[.agg #[.int .i64 1, .int .u8 115, .bool vb, .bool up, .bool qu, .bool det, .bool dat, .bool bare, .bool thin, .int .i64 kind, .int .i64 0, .string ⟨#[]⟩, .string arc, .slice an nl nc]] w fun e w' => e = .returned (.int .i64 156) ∧ Below w.heap.size w w' := by
  obtain ⟨w1, hw1⟩ : ∃ w1, w.alloc (.cells #[.int .i64 1, .int .u8 115, .bool vb, .bool up, .bool qu, .bool det, .bool dat, .bool bare, .bool thin, .int .i64 kind, .int .i64 0, .string ⟨#[]⟩, .string arc, .slice an nl nc] 27) = w1 := ⟨_, rfl⟩
  have hP := heap_alloc_new w (.cells #[.int .i64 1, .int .u8 115, .bool vb, .bool up, .bool qu, .bool det, .bool dat, .bool bare, .bool thin, .int .i64 kind, .int .i64 0, .string ⟨#[]⟩, .string arc, .slice an nl nc] 27)
  have hB : Below w.heap.size w w1 := by rw [← hw1]; exact bupK (Below.refl _ _) _
  rw [hw1] at hP
  have x0 := cell_rowK hP 0 _ rfl
  have x1 := cell_rowK hP 1 _ rfl
  have x10 := cell_rowK hP 10 _ rfl
  go_enter Tryd.func16, Tryd.ntmps16
  go_upto_region 1 with fail
  try rw [hw1]
  clear hw1
  go_wp2_with (first
    | (go_at_call 27; refine (HIO.out _).mono ?_; rintro e w2 ⟨rfl, hw2⟩; rw [hw2]; clear hw2)
    | (go_at_call 28; refine (HMX.out _).mono ?_; rintro e w3 ⟨rfl, b3⟩; have y11 := cell_onG (cell_rowK hP 11 _ rfl) b3; have y12 := cell_onG (cell_rowK hP 12 _ rfl) b3)
    | (go_at_call 29; refine (HKW.out _).mono ?_; rintro e w4 ⟨rfl, hw4⟩; rw [hw4]; clear hw4)
    | (refine wpList_load_row rfl _ _ rfl w.heap.size rfl _ #[.int .i64 1, .int .u8 115, .bool vb, .bool up, .bool qu, .bool det, .bool dat, .bool bare, .bool thin, .int .i64 kind, .int .i64 0, .string ⟨#[]⟩, .string arc, .slice an nl nc] (0, 0) _ hP Tryd.underlying27 rfl (by kernel_rfl) ?_))
  go_ret
  exact ⟨rfl, bel3K hB b3⟩
set_option maxHeartbeats 4000000 in
theorem why_o31  (vb up qu det dat bare thin : Bool) (kind : Int) (arc : ByteArray) (an : Option Addr) (nl nc : Nat) (w : World) (HIO : Hid (∀ W, Calls Tryd.prog 27 #[.int .u8 115, .string ⟨#[100, 109, 112, 113, 114, 115, 116, 120]⟩] W fun e w' => e = .returned (.bool true) ∧ w' = W)) (HMX : Hid (∀ W, Calls Tryd.prog 28 #[.agg #[.int .i64 1, .int .u8 115, .bool vb, .bool up, .bool qu, .bool det, .bool dat, .bool bare, .bool thin, .int .i64 kind, .int .i64 0, .string ⟨#[]⟩, .string arc, .slice an nl nc]] W fun e w' => e = .returned (.bool true) ∧ Below W.heap.size W w')) (HKW : Hid (∀ W, Calls Tryd.prog 29 #[.string arc] W fun e w' => e = .returned (.bool false) ∧ w' = W)) :
    Calls Tryd.prog 16 #[.agg #[.int .i64 1, .int .u8 115, .bool vb, .bool up, .bool qu, .bool det, .bool dat, .bool bare, .bool thin, .int .i64 kind, .int .i64 0, .string ⟨#[]⟩, .string arc, .slice an nl nc]] w fun e w' => e = .returned (.int .i64 0) ∧ Below w.heap.size w w' := by
  obtain ⟨w1, hw1⟩ : ∃ w1, w.alloc (.cells #[.int .i64 1, .int .u8 115, .bool vb, .bool up, .bool qu, .bool det, .bool dat, .bool bare, .bool thin, .int .i64 kind, .int .i64 0, .string ⟨#[]⟩, .string arc, .slice an nl nc] 27) = w1 := ⟨_, rfl⟩
  have hP := heap_alloc_new w (.cells #[.int .i64 1, .int .u8 115, .bool vb, .bool up, .bool qu, .bool det, .bool dat, .bool bare, .bool thin, .int .i64 kind, .int .i64 0, .string ⟨#[]⟩, .string arc, .slice an nl nc] 27)
  have hB : Below w.heap.size w w1 := by rw [← hw1]; exact bupK (Below.refl _ _) _
  rw [hw1] at hP
  have x0 := cell_rowK hP 0 _ rfl
  have x1 := cell_rowK hP 1 _ rfl
  have x10 := cell_rowK hP 10 _ rfl
  go_enter Tryd.func16, Tryd.ntmps16
  go_upto_region 1 with fail
  try rw [hw1]
  clear hw1
  go_wp2_with (first
    | (go_at_call 27; refine (HIO.out _).mono ?_; rintro e w2 ⟨rfl, hw2⟩; rw [hw2]; clear hw2)
    | (go_at_call 28; refine (HMX.out _).mono ?_; rintro e w3 ⟨rfl, b3⟩; have y11 := cell_onG (cell_rowK hP 11 _ rfl) b3; have y12 := cell_onG (cell_rowK hP 12 _ rfl) b3)
    | (go_at_call 29; refine (HKW.out _).mono ?_; rintro e w4 ⟨rfl, hw4⟩; rw [hw4]; clear hw4)
    | (refine wpList_load_row rfl _ _ rfl w.heap.size rfl _ #[.int .i64 1, .int .u8 115, .bool vb, .bool up, .bool qu, .bool det, .bool dat, .bool bare, .bool thin, .int .i64 kind, .int .i64 0, .string ⟨#[]⟩, .string arc, .slice an nl nc] (0, 0) _ hP Tryd.underlying27 rfl (by kernel_rfl) ?_))
  go_ret
  exact ⟨rfl, bel3K hB b3⟩
set_option maxHeartbeats 4000000 in
theorem why_o41 (wh : Int) (anc : ByteArray) (vb up qu det dat bare thin : Bool) (kind : Int) (arc : ByteArray) (an : Option Addr) (nl nc : Nat) (w : World) (HIO : Hid (∀ W, Calls Tryd.prog 27 #[.int .u8 115, .string ⟨#[100, 109, 112, 113, 114, 115, 116, 120]⟩] W fun e w' => e = .returned (.bool true) ∧ w' = W)) (HMX : Hid (∀ W, Calls Tryd.prog 28 #[.agg #[.int .i64 1, .int .u8 115, .bool vb, .bool up, .bool qu, .bool det, .bool dat, .bool bare, .bool thin, .int .i64 kind, .int .i64 wh, .string anc, .string arc, .slice an nl nc]] W fun e w' => e = .returned (.bool true) ∧ Below W.heap.size W w')) (hz : (wh == 0) = false) (HKW : Hid (∀ W, Calls Tryd.prog 29 #[.string anc] W fun e w' => e = .returned (.bool true) ∧ w' = W)) :
    Calls Tryd.prog 16 #[.agg #[.int .i64 1, .int .u8 115, .bool vb, .bool up, .bool qu, .bool det, .bool dat, .bool bare, .bool thin, .int .i64 kind, .int .i64 wh, .string anc, .string arc, .slice an nl nc]] w fun e w' => e = .returned (.int .i64 157) ∧ Below w.heap.size w w' := by
  obtain ⟨w1, hw1⟩ : ∃ w1, w.alloc (.cells #[.int .i64 1, .int .u8 115, .bool vb, .bool up, .bool qu, .bool det, .bool dat, .bool bare, .bool thin, .int .i64 kind, .int .i64 wh, .string anc, .string arc, .slice an nl nc] 27) = w1 := ⟨_, rfl⟩
  have hP := heap_alloc_new w (.cells #[.int .i64 1, .int .u8 115, .bool vb, .bool up, .bool qu, .bool det, .bool dat, .bool bare, .bool thin, .int .i64 kind, .int .i64 wh, .string anc, .string arc, .slice an nl nc] 27)
  have hB : Below w.heap.size w w1 := by rw [← hw1]; exact bupK (Below.refl _ _) _
  rw [hw1] at hP
  have x0 := cell_rowK hP 0 _ rfl
  have x1 := cell_rowK hP 1 _ rfl
  have x10 := cell_rowK hP 10 _ rfl
  go_enter Tryd.func16, Tryd.ntmps16
  go_upto_region 1 with fail
  try rw [hw1]
  clear hw1
  go_wp2_with (first
    | (go_at_call 27; refine (HIO.out _).mono ?_; rintro e w2 ⟨rfl, hw2⟩; rw [hw2]; clear hw2)
    | (go_at_call 28; refine (HMX.out _).mono ?_; rintro e w3 ⟨rfl, b3⟩; have y11 := cell_onG (cell_rowK hP 11 _ rfl) b3; have y12 := cell_onG (cell_rowK hP 12 _ rfl) b3)
    | (go_at_call 29; refine (HKW.out _).mono ?_; rintro e w4 ⟨rfl, hw4⟩; rw [hw4]; clear hw4)
    | (refine wpList_load_row rfl _ _ rfl w.heap.size rfl _ #[.int .i64 1, .int .u8 115, .bool vb, .bool up, .bool qu, .bool det, .bool dat, .bool bare, .bool thin, .int .i64 kind, .int .i64 wh, .string anc, .string arc, .slice an nl nc] (0, 0) _ hP Tryd.underlying27 rfl (by kernel_rfl) ?_))
  go_ret
  exact ⟨rfl, bel3K hB b3⟩
set_option maxHeartbeats 4000000 in
theorem why_o51 (wh : Int) (anc : ByteArray) (vb up qu det dat bare thin : Bool) (kind : Int) (arc : ByteArray) (an : Option Addr) (nl nc : Nat) (w : World) (HIO : Hid (∀ W, Calls Tryd.prog 27 #[.int .u8 115, .string ⟨#[100, 109, 112, 113, 114, 115, 116, 120]⟩] W fun e w' => e = .returned (.bool true) ∧ w' = W)) (HMX : Hid (∀ W, Calls Tryd.prog 28 #[.agg #[.int .i64 1, .int .u8 115, .bool vb, .bool up, .bool qu, .bool det, .bool dat, .bool bare, .bool thin, .int .i64 kind, .int .i64 wh, .string anc, .string arc, .slice an nl nc]] W fun e w' => e = .returned (.bool true) ∧ Below W.heap.size W w')) (hz : (wh == 0) = false) (HKW : Hid (∀ W, Calls Tryd.prog 29 #[.string anc] W fun e w' => e = .returned (.bool false) ∧ w' = W)) :
    Calls Tryd.prog 16 #[.agg #[.int .i64 1, .int .u8 115, .bool vb, .bool up, .bool qu, .bool det, .bool dat, .bool bare, .bool thin, .int .i64 kind, .int .i64 wh, .string anc, .string arc, .slice an nl nc]] w fun e w' => e = .returned (.int .i64 0) ∧ Below w.heap.size w w' := by
  obtain ⟨w1, hw1⟩ : ∃ w1, w.alloc (.cells #[.int .i64 1, .int .u8 115, .bool vb, .bool up, .bool qu, .bool det, .bool dat, .bool bare, .bool thin, .int .i64 kind, .int .i64 wh, .string anc, .string arc, .slice an nl nc] 27) = w1 := ⟨_, rfl⟩
  have hP := heap_alloc_new w (.cells #[.int .i64 1, .int .u8 115, .bool vb, .bool up, .bool qu, .bool det, .bool dat, .bool bare, .bool thin, .int .i64 kind, .int .i64 wh, .string anc, .string arc, .slice an nl nc] 27)
  have hB : Below w.heap.size w w1 := by rw [← hw1]; exact bupK (Below.refl _ _) _
  rw [hw1] at hP
  have x0 := cell_rowK hP 0 _ rfl
  have x1 := cell_rowK hP 1 _ rfl
  have x10 := cell_rowK hP 10 _ rfl
  go_enter Tryd.func16, Tryd.ntmps16
  go_upto_region 1 with fail
  try rw [hw1]
  clear hw1
  go_wp2_with (first
    | (go_at_call 27; refine (HIO.out _).mono ?_; rintro e w2 ⟨rfl, hw2⟩; rw [hw2]; clear hw2)
    | (go_at_call 28; refine (HMX.out _).mono ?_; rintro e w3 ⟨rfl, b3⟩; have y11 := cell_onG (cell_rowK hP 11 _ rfl) b3; have y12 := cell_onG (cell_rowK hP 12 _ rfl) b3)
    | (go_at_call 29; refine (HKW.out _).mono ?_; rintro e w4 ⟨rfl, hw4⟩; rw [hw4]; clear hw4)
    | (refine wpList_load_row rfl _ _ rfl w.heap.size rfl _ #[.int .i64 1, .int .u8 115, .bool vb, .bool up, .bool qu, .bool det, .bool dat, .bool bare, .bool thin, .int .i64 kind, .int .i64 wh, .string anc, .string arc, .slice an nl nc] (0, 0) _ hP Tryd.underlying27 rfl (by kernel_rfl) ?_))
  go_ret
  exact ⟨rfl, bel3K hB b3⟩
theorem why_c (c : Cm) (an : Option Addr) (nl nc : Nat) (w : World) : Calls Tryd.prog 16 #[.agg (cmL c (.slice an nl nc)).toArray] w fun e w' => e = .returned (.int .i64 (refC c)) ∧ Below w.heap.size w w' := by
  have hio0 : ∀ W, Calls Tryd.prog 27 #[.int .u8 (c.op.toNat : Int), .string ⟨#[100, 109, 112, 113, 114, 115, 116, 120]⟩] W fun e w' => e = .returned (.bool (known c.op)) ∧ w' = W := fun W => by
    have h := isOneOf_c c.op ⟨#[100, 109, 112, 113, 114, 115, 116, 120]⟩ W
    rwa [known_has] at h
  by_cases h0 : c.prog ≠ 0 ∧ c.prog ≠ 1
  · have e : refC c = 150 := by unfold refC; rw [if_pos h0]
    rw [e]
    obtain ⟨prog, op, vb, up, qu, det, dat, bare, thin, kind, wh, anc, arc, nms⟩ := c
    exact why_a prog (op.toNat : Int) wh anc vb up qu det dat bare thin kind arc an nl nc w h0.1 h0.2
  by_cases h1 : known c.op = false ∨ (c.prog = 1 ∧ c.op ≠ 115)
  · have e : refC c = 151 := by unfold refC; rw [if_neg h0, if_pos h1]
    rw [e]
    obtain ⟨prog, op, vb, up, qu, det, dat, bare, thin, kind, wh, anc, arc, nms⟩ := c
    dsimp only at h0 h1 hio0
    have hp : prog = 0 ∨ prog = 1 := by omega
    cases hk : known op with
    | false =>
      rw [hk] at hio0
      rcases hp with rfl | rfl
      · exact why_b0 (op.toNat : Int) wh anc vb up qu det dat bare thin kind arc an nl nc w (hidK hio0)
      · exact why_b1 (op.toNat : Int) wh anc vb up qu det dat bare thin kind arc an nl nc w (hidK hio0)
    | true =>
      rw [hk] at hio0 h1
      rcases h1 with h1 | h1
      · cases h1
      · obtain ⟨rfl, ho⟩ := h1
        exact why_b2 (op.toNat : Int) wh anc vb up qu det dat bare thin kind arc an nl nc w (u8ne ho) (hidK hio0)
  have hk : known c.op = true := by cases hk : known c.op with
    | true => rfl
    | false => exact absurd (.inl hk) h1
  rw [hk] at hio0
  have hmx0 : ∃ b : Bool, (b = true ↔ mixP c) ∧ ∀ W, Calls Tryd.prog 28 #[.agg (cmL c (.slice an nl nc)).toArray] W fun e w' => e = .returned (.bool b) ∧ Below W.heap.size W w' := by
    by_cases hm : mixP c
    · refine ⟨true, by simp [hm], fun W => ?_⟩
      obtain ⟨b, hb, hc⟩ := isMix_c c an nl nc W
      have : b = true := hb.2 hm
      subst this
      exact hc
    · refine ⟨false, by simp [hm], fun W => ?_⟩
      obtain ⟨b, hb, hc⟩ := isMix_c c an nl nc W
      have : b = false := by
        cases b with
        | false => rfl
        | true => exact absurd (hb.1 rfl) hm
      subst this
      exact hc
  obtain ⟨b, hb, hmx⟩ := hmx0
  have hp : c.prog = 0 ∨ c.prog = 1 := by omega
  cases b with
  | false =>
    have hm : ¬ mixP c := fun q => by have := hb.2 q; cases this
    rw [ref_mix h0 h1 hm]
    obtain ⟨prog, op, vb, up, qu, det, dat, bare, thin, kind, wh, anc, arc, nms⟩ := c
    rcases hp with hp | hp
    · dsimp only at hp
      subst hp
      exact why_c0 (op.toNat : Int) wh anc vb up qu det dat bare thin kind arc an nl nc w (hidK hio0) (hidK hmx)
    · dsimp only at hp h1
      subst hp
      obtain rfl : op = 115 := by
        by_cases e : op = 115
        · exact e
        · exact absurd (.inr ⟨rfl, e⟩) h1
      exact why_c1 wh anc vb up qu det dat bare thin kind arc an nl nc w (hidK hio0) (hidK hmx)
  | true =>
    have hm : mixP c := hb.1 rfl
    rw [ref_go h0 h1 hm]
    clear hb hm
    obtain ⟨prog, op, vb, up, qu, det, dat, bare, thin, kind, wh, anc, arc, nms⟩ := c
    rcases hp with hp | hp
    · dsimp only at hp hio0 ⊢
      subst hp
      have hio := hio0
      by_cases hw : wh = 0
      · subst hw
        by_cases ha : anc = ⟨#[]⟩
        · subst ha
          rw [if_neg (fun q => q.2 rfl), if_neg (fun q => q.1 rfl)]
          cases hd : dsh arc with
          | true => rw [if_pos ⟨rfl, rfl⟩]; exact why_o20 (op.toNat : Int) vb up qu det dat bare thin kind arc an nl nc w (hidK hio) (hidK hmx) (hidK fun W => by have := dsh_c arc W; rwa [hd] at this)
          | false => rw [if_neg (fun q => by cases q.2)]; exact why_o30 (op.toNat : Int) vb up qu det dat bare thin kind arc an nl nc w (hidK hio) (hidK hmx) (hidK fun W => by have := dsh_c arc W; rwa [hd] at this)
        · rw [if_pos ⟨rfl, ha⟩]
          exact why_o10 (op.toNat : Int) anc vb up qu det dat bare thin kind arc an nl nc w (hidK hio) (hidK hmx) (beqW ha rfl) (by rw [emp15]; exact decide_eq_false fun q => ha (by rw [← byB_byL anc, q]; rfl))
      · rw [if_neg (fun q => hw q.1)]
        have hz : (wh == 0) = false := beq_eq_false_iff_ne.2 hw
        cases hd : dsh anc with
        | true => rw [if_pos ⟨hw, rfl⟩]; exact why_o40 (op.toNat : Int) wh anc vb up qu det dat bare thin kind arc an nl nc w (hidK hio) (hidK hmx) hz (hidK fun W => by have := dsh_c anc W; rwa [hd] at this)
        | false => rw [if_neg (fun q => by cases q.2), if_neg (fun q => hw q.1)]; exact why_o50 (op.toNat : Int) wh anc vb up qu det dat bare thin kind arc an nl nc w (hidK hio) (hidK hmx) hz (hidK fun W => by have := dsh_c anc W; rwa [hd] at this)
    · dsimp only at hp h1 hio0 ⊢
      subst hp
      obtain rfl : op = 115 := by
        by_cases e : op = 115
        · exact e
        · exact absurd (.inr ⟨rfl, e⟩) h1
      have hio := hio0
      by_cases hw : wh = 0
      · subst hw
        by_cases ha : anc = ⟨#[]⟩
        · subst ha
          rw [if_neg (fun q => q.2 rfl), if_neg (fun q => q.1 rfl)]
          cases hd : dsh arc with
          | true => rw [if_pos ⟨rfl, rfl⟩]; exact why_o21 vb up qu det dat bare thin kind arc an nl nc w (hidK hio) (hidK hmx) (hidK fun W => by have := dsh_c arc W; rwa [hd] at this)
          | false => rw [if_neg (fun q => by cases q.2)]; exact why_o31 vb up qu det dat bare thin kind arc an nl nc w (hidK hio) (hidK hmx) (hidK fun W => by have := dsh_c arc W; rwa [hd] at this)
        · rw [if_pos ⟨rfl, ha⟩]
          exact why_o11 anc vb up qu det dat bare thin kind arc an nl nc w (hidK hio) (hidK hmx) (beqW ha rfl) (by rw [emp15]; exact decide_eq_false fun q => ha (by rw [← byB_byL anc, q]; rfl))
      · rw [if_neg (fun q => hw q.1)]
        have hz : (wh == 0) = false := beq_eq_false_iff_ne.2 hw
        cases hd : dsh anc with
        | true => rw [if_pos ⟨hw, rfl⟩]; exact why_o41 wh anc vb up qu det dat bare thin kind arc an nl nc w (hidK hio) (hidK hmx) hz (hidK fun W => by have := dsh_c anc W; rwa [hd] at this)
        | false => rw [if_neg (fun q => by cases q.2), if_neg (fun q => hw q.1)]; exact why_o51 wh anc vb up qu det dat bare thin kind arc an nl nc w (hidK hio) (hidK hmx) hz (hidK fun W => by have := dsh_c anc W; rwa [hd] at this)
end Go.Proofs.YtmhamlhmmkbkaaaDoor
