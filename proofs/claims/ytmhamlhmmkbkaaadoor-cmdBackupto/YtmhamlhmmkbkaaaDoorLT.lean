
-- What a letter does: the methods of the line, on the landed side.
import Derived.Test.YtmhamlhmmkbkaaaDoorC0
import Derived.Test.YtmhamlhmmkbkaaaDoorKQ
namespace Go.Proofs.YtmhamlhmmkbkaaaDoor
open Go.ChangeShapes Go.WideShapes Go.ChangeAt Go.RowKit
set_option linter.unusedVariables false
set_option maxRecDepth 100000
set_option linter.unusedSimpArgs false
theorem Kq.id (b : Nat) (w : World) : Kq b w w := ⟨rfl, rfl, rfl, Nat.le_refl _, fun _ _ _ => rfl⟩
theorem Kq.two {b : Nat} {w a c : World} (h : Kq b w a) (k : Kq b a c) : Kq b w c := ⟨k.os.trans h.os, k.tape.trans h.tape, k.output.trans h.output, Nat.le_trans h.size k.size, fun j hj hl => (k.block j hj (Nat.lt_of_lt_of_le hl h.size)).trans (h.block j hj hl)⟩
set_option maxHeartbeats 1000000 in
theorem lt_quiet (b : Nat) (aw : Option Addr) (nw cw : Nat) (p0 on kd wh : Int) (vb up qu det dat bare thin : Bool) (anc arc ps : ByteArray) (an : Option Addr) (nl nc : Nat) (w : World) (n : Int) (hb : w.heap[b]? = some (.cells #[.slice aw nw cw, .int .i64 p0, .int .u8 on, .bool vb, .bool up, .bool qu, .bool det, .bool dat, .bool bare, .bool thin, .int .i64 kd, .int .i64 wh, .string anc, .string arc, .slice an nl nc, .string ps] 43 (0, 0))) :
    Calls Tryd.prog 45 #[.pointer (some ⟨b, 0, none⟩), .int .i32 n] w fun e w' => e = .returned (.int .i64 0) ∧ w'.heap[b]? = some (.cells #[.slice aw nw cw, .int .i64 p0, .int .u8 on, .bool vb, .bool up, .bool true, .bool det, .bool dat, .bool bare, .bool thin, .int .i64 kd, .int .i64 wh, .string anc, .string arc, .slice an nl nc, .string ps] 43 (0, 0)) ∧ Kq b w w' := by
  go_enter Tryd.func45, Tryd.ntmps45
  go_wp2_with (refine wpList_store_kz rfl rfl _ _ _ rfl b 5 (.bool true) rfl rfl _ _ #[.slice aw nw cw, .int .i64 p0, .int .u8 on, .bool vb, .bool up, .bool true, .bool det, .bool dat, .bool bare, .bool thin, .int .i64 kd, .int .i64 wh, .string anc, .string arc, .slice an nl nc, .string ps] hb (by kernel_rfl) rfl rfl rfl ?_; intro W1 S1 q1)
  go_ret
  exact ⟨rfl, S1, q1⟩
set_option maxHeartbeats 1000000 in
theorem lt_deterministic (b : Nat) (aw : Option Addr) (nw cw : Nat) (p0 on kd wh : Int) (vb up qu det dat bare thin : Bool) (anc arc ps : ByteArray) (an : Option Addr) (nl nc : Nat) (w : World) (n : Int) (hb : w.heap[b]? = some (.cells #[.slice aw nw cw, .int .i64 p0, .int .u8 on, .bool vb, .bool up, .bool qu, .bool det, .bool dat, .bool bare, .bool thin, .int .i64 kd, .int .i64 wh, .string anc, .string arc, .slice an nl nc, .string ps] 43 (0, 0))) :
    Calls Tryd.prog 39 #[.pointer (some ⟨b, 0, none⟩), .int .i32 n] w fun e w' => e = .returned (.int .i64 0) ∧ w'.heap[b]? = some (.cells #[.slice aw nw cw, .int .i64 p0, .int .u8 on, .bool vb, .bool up, .bool qu, .bool true, .bool dat, .bool bare, .bool thin, .int .i64 kd, .int .i64 wh, .string anc, .string arc, .slice an nl nc, .string ps] 43 (0, 0)) ∧ Kq b w w' := by
  go_enter Tryd.func39, Tryd.ntmps39
  go_wp2_with (refine wpList_store_kz rfl rfl _ _ _ rfl b 6 (.bool true) rfl rfl _ _ #[.slice aw nw cw, .int .i64 p0, .int .u8 on, .bool vb, .bool up, .bool qu, .bool true, .bool dat, .bool bare, .bool thin, .int .i64 kd, .int .i64 wh, .string anc, .string arc, .slice an nl nc, .string ps] hb (by kernel_rfl) rfl rfl rfl ?_; intro W1 S1 q1)
  go_ret
  exact ⟨rfl, S1, q1⟩
set_option maxHeartbeats 1000000 in
theorem lt_dates (b : Nat) (aw : Option Addr) (nw cw : Nat) (p0 on kd wh : Int) (vb up qu det dat bare thin : Bool) (anc arc ps : ByteArray) (an : Option Addr) (nl nc : Nat) (w : World) (n : Int) (hb : w.heap[b]? = some (.cells #[.slice aw nw cw, .int .i64 p0, .int .u8 on, .bool vb, .bool up, .bool qu, .bool det, .bool dat, .bool bare, .bool thin, .int .i64 kd, .int .i64 wh, .string anc, .string arc, .slice an nl nc, .string ps] 43 (0, 0))) :
    Calls Tryd.prog 46 #[.pointer (some ⟨b, 0, none⟩), .int .i32 n] w fun e w' => e = .returned (.int .i64 0) ∧ w'.heap[b]? = some (.cells #[.slice aw nw cw, .int .i64 p0, .int .u8 on, .bool vb, .bool up, .bool qu, .bool det, .bool true, .bool bare, .bool thin, .int .i64 kd, .int .i64 wh, .string anc, .string arc, .slice an nl nc, .string ps] 43 (0, 0)) ∧ Kq b w w' := by
  go_enter Tryd.func46, Tryd.ntmps46
  go_wp2_with (refine wpList_store_kz rfl rfl _ _ _ rfl b 7 (.bool true) rfl rfl _ _ #[.slice aw nw cw, .int .i64 p0, .int .u8 on, .bool vb, .bool up, .bool qu, .bool det, .bool true, .bool bare, .bool thin, .int .i64 kd, .int .i64 wh, .string anc, .string arc, .slice an nl nc, .string ps] hb (by kernel_rfl) rfl rfl rfl ?_; intro W1 S1 q1)
  go_ret
  exact ⟨rfl, S1, q1⟩
set_option maxHeartbeats 1000000 in
theorem lt_bare (b : Nat) (aw : Option Addr) (nw cw : Nat) (p0 on kd wh : Int) (vb up qu det dat bare thin : Bool) (anc arc ps : ByteArray) (an : Option Addr) (nl nc : Nat) (w : World) (n : Int) (hb : w.heap[b]? = some (.cells #[.slice aw nw cw, .int .i64 p0, .int .u8 on, .bool vb, .bool up, .bool qu, .bool det, .bool dat, .bool bare, .bool thin, .int .i64 kd, .int .i64 wh, .string anc, .string arc, .slice an nl nc, .string ps] 43 (0, 0))) :
    Calls Tryd.prog 47 #[.pointer (some ⟨b, 0, none⟩), .int .i32 n] w fun e w' => e = .returned (.int .i64 0) ∧ w'.heap[b]? = some (.cells #[.slice aw nw cw, .int .i64 p0, .int .u8 on, .bool vb, .bool up, .bool qu, .bool det, .bool dat, .bool true, .bool thin, .int .i64 kd, .int .i64 wh, .string anc, .string arc, .slice an nl nc, .string ps] 43 (0, 0)) ∧ Kq b w w' := by
  go_enter Tryd.func47, Tryd.ntmps47
  go_wp2_with (refine wpList_store_kz rfl rfl _ _ _ rfl b 8 (.bool true) rfl rfl _ _ #[.slice aw nw cw, .int .i64 p0, .int .u8 on, .bool vb, .bool up, .bool qu, .bool det, .bool dat, .bool true, .bool thin, .int .i64 kd, .int .i64 wh, .string anc, .string arc, .slice an nl nc, .string ps] hb (by kernel_rfl) rfl rfl rfl ?_; intro W1 S1 q1)
  go_ret
  exact ⟨rfl, S1, q1⟩
set_option maxHeartbeats 1000000 in
theorem lt_thin (b : Nat) (aw : Option Addr) (nw cw : Nat) (p0 on kd wh : Int) (vb up qu det dat bare thin : Bool) (anc arc ps : ByteArray) (an : Option Addr) (nl nc : Nat) (w : World) (n : Int) (hb : w.heap[b]? = some (.cells #[.slice aw nw cw, .int .i64 p0, .int .u8 on, .bool vb, .bool up, .bool qu, .bool det, .bool dat, .bool bare, .bool thin, .int .i64 kd, .int .i64 wh, .string anc, .string arc, .slice an nl nc, .string ps] 43 (0, 0))) :
    Calls Tryd.prog 48 #[.pointer (some ⟨b, 0, none⟩), .int .i32 n] w fun e w' => e = .returned (.int .i64 0) ∧ w'.heap[b]? = some (.cells #[.slice aw nw cw, .int .i64 p0, .int .u8 on, .bool vb, .bool up, .bool qu, .bool det, .bool dat, .bool bare, .bool true, .int .i64 kd, .int .i64 wh, .string anc, .string arc, .slice an nl nc, .string ps] 43 (0, 0)) ∧ Kq b w w' := by
  go_enter Tryd.func48, Tryd.ntmps48
  go_wp2_with (refine wpList_store_kz rfl rfl _ _ _ rfl b 9 (.bool true) rfl rfl _ _ #[.slice aw nw cw, .int .i64 p0, .int .u8 on, .bool vb, .bool up, .bool qu, .bool det, .bool dat, .bool bare, .bool true, .int .i64 kd, .int .i64 wh, .string anc, .string arc, .slice an nl nc, .string ps] hb (by kernel_rfl) rfl rfl rfl ?_; intro W1 S1 q1)
  go_ret
  exact ⟨rfl, S1, q1⟩
set_option maxHeartbeats 1000000 in
theorem lt_update (b : Nat) (aw : Option Addr) (nw cw : Nat) (p0 on kd wh : Int) (vb up qu det dat bare thin : Bool) (anc arc ps : ByteArray) (an : Option Addr) (nl nc : Nat) (w : World) (n : Int) (hb : w.heap[b]? = some (.cells #[.slice aw nw cw, .int .i64 p0, .int .u8 on, .bool vb, .bool up, .bool qu, .bool det, .bool dat, .bool bare, .bool thin, .int .i64 kd, .int .i64 wh, .string anc, .string arc, .slice an nl nc, .string ps] 43 (0, 0))) :
    Calls Tryd.prog 49 #[.pointer (some ⟨b, 0, none⟩), .int .i32 n] w fun e w' => e = .returned (.int .i64 0) ∧ w'.heap[b]? = some (.cells #[.slice aw nw cw, .int .i64 p0, .int .u8 on, .bool vb, .bool true, .bool qu, .bool det, .bool dat, .bool bare, .bool thin, .int .i64 kd, .int .i64 wh, .string anc, .string arc, .slice an nl nc, .string ps] 43 (0, 0)) ∧ Kq b w w' := by
  go_enter Tryd.func49, Tryd.ntmps49
  go_wp2_with (refine wpList_store_kz rfl rfl _ _ _ rfl b 4 (.bool true) rfl rfl _ _ #[.slice aw nw cw, .int .i64 p0, .int .u8 on, .bool vb, .bool true, .bool qu, .bool det, .bool dat, .bool bare, .bool thin, .int .i64 kd, .int .i64 wh, .string anc, .string arc, .slice an nl nc, .string ps] hb (by kernel_rfl) rfl rfl rfl ?_; intro W1 S1 q1)
  go_ret
  exact ⟨rfl, S1, q1⟩
set_option maxHeartbeats 1000000 in
theorem lt_verbose (b : Nat) (aw : Option Addr) (nw cw : Nat) (p0 on kd wh : Int) (vb up qu det dat bare thin : Bool) (anc arc ps : ByteArray) (an : Option Addr) (nl nc : Nat) (w : World) (n : Int) (hb : w.heap[b]? = some (.cells #[.slice aw nw cw, .int .i64 p0, .int .u8 on, .bool vb, .bool up, .bool qu, .bool det, .bool dat, .bool bare, .bool thin, .int .i64 kd, .int .i64 wh, .string anc, .string arc, .slice an nl nc, .string ps] 43 (0, 0))) :
    Calls Tryd.prog 50 #[.pointer (some ⟨b, 0, none⟩), .int .i32 n] w fun e w' => e = .returned (.int .i64 0) ∧ w'.heap[b]? = some (.cells #[.slice aw nw cw, .int .i64 p0, .int .u8 on, .bool true, .bool up, .bool qu, .bool det, .bool dat, .bool bare, .bool thin, .int .i64 kd, .int .i64 wh, .string anc, .string arc, .slice an nl nc, .string ps] 43 (0, 0)) ∧ Kq b w w' := by
  go_enter Tryd.func50, Tryd.ntmps50
  go_wp2_with (refine wpList_store_kz rfl rfl _ _ _ rfl b 3 (.bool true) rfl rfl _ _ #[.slice aw nw cw, .int .i64 p0, .int .u8 on, .bool true, .bool up, .bool qu, .bool det, .bool dat, .bool bare, .bool thin, .int .i64 kd, .int .i64 wh, .string anc, .string arc, .slice an nl nc, .string ps] hb (by kernel_rfl) rfl rfl rfl ?_; intro W1 S1 q1)
  go_ret
  exact ⟨rfl, S1, q1⟩
set_option maxHeartbeats 1000000 in
theorem lt_ignore (b : Nat) (w : World) (n : Int)  :
    Calls Tryd.prog 51 #[.pointer (some ⟨b, 0, none⟩), .int .i32 n] w fun e w' => e = .returned (.int .i64 0) ∧ w' = w := by
  go_enter Tryd.func51, Tryd.ntmps51
  go_wp2
  go_ret
  exact ⟨rfl, rfl⟩
set_option maxHeartbeats 1000000 in
theorem lt_unknown (b : Nat) (w : World) (n : Int)  :
    Calls Tryd.prog 52 #[.pointer (some ⟨b, 0, none⟩), .int .i32 n] w fun e w' => e = .returned (.int .i64 153) ∧ w' = w := by
  go_enter Tryd.func52, Tryd.ntmps52
  go_wp2
  go_ret
  exact ⟨rfl, rfl⟩
set_option maxHeartbeats 1000000 in
theorem lt_operate_100 (b : Nat) (aw : Option Addr) (nw cw : Nat) (p0 on kd wh : Int) (vb up qu det dat bare thin : Bool) (anc arc ps : ByteArray) (an : Option Addr) (nl nc : Nat) (w : World) (hb : w.heap[b]? = some (.cells #[.slice aw nw cw, .int .i64 p0, .int .u8 0, .bool vb, .bool up, .bool qu, .bool det, .bool dat, .bool bare, .bool thin, .int .i64 kd, .int .i64 wh, .string anc, .string arc, .slice an nl nc, .string ps] 43 (0, 0))) :
    Calls Tryd.prog 42 #[.pointer (some ⟨b, 0, none⟩), .int .i32 100] w fun e w' => e = .returned (.int .i64 0) ∧ w'.heap[b]? = some (.cells #[.slice aw nw cw, .int .i64 p0, .int .u8 100, .bool vb, .bool up, .bool qu, .bool det, .bool dat, .bool bare, .bool thin, .int .i64 kd, .int .i64 wh, .string anc, .string arc, .slice an nl nc, .string ps] 43 (0, 0)) ∧ Kq b w w' := by
  have c1 := cell_rowK hb 2 _ rfl
  go_enter Tryd.func42, Tryd.ntmps42
  go_wp2_with (refine wpList_store_kz rfl rfl _ _ _ rfl b 2 (.int .u8 100) rfl rfl _ _ #[.slice aw nw cw, .int .i64 p0, .int .u8 100, .bool vb, .bool up, .bool qu, .bool det, .bool dat, .bool bare, .bool thin, .int .i64 kd, .int .i64 wh, .string anc, .string arc, .slice an nl nc, .string ps] hb (by kernel_rfl) rfl rfl rfl ?_; intro W1 S1 q1)
  go_ret
  exact ⟨rfl, S1, q1⟩
set_option maxHeartbeats 1000000 in
theorem lt_operates_100 (b : Nat) (aw : Option Addr) (nw cw : Nat) (p0 on kd wh : Int) (vb up qu det dat bare thin : Bool) (anc arc ps : ByteArray) (an : Option Addr) (nl nc : Nat) (w : World) (hb : w.heap[b]? = some (.cells #[.slice aw nw cw, .int .i64 p0, .int .u8 115, .bool vb, .bool up, .bool qu, .bool det, .bool dat, .bool bare, .bool thin, .int .i64 kd, .int .i64 wh, .string anc, .string arc, .slice an nl nc, .string ps] 43 (0, 0))) :
    Calls Tryd.prog 42 #[.pointer (some ⟨b, 0, none⟩), .int .i32 100] w fun e w' => e = .returned (.int .i64 0) ∧ w'.heap[b]? = some (.cells #[.slice aw nw cw, .int .i64 p0, .int .u8 100, .bool vb, .bool up, .bool qu, .bool det, .bool dat, .bool bare, .bool thin, .int .i64 kd, .int .i64 wh, .string anc, .string arc, .slice an nl nc, .string ps] 43 (0, 0)) ∧ Kq b w w' := by
  have c1 := cell_rowK hb 2 _ rfl
  go_enter Tryd.func42, Tryd.ntmps42
  go_wp2_with (refine wpList_store_kz rfl rfl _ _ _ rfl b 2 (.int .u8 100) rfl rfl _ _ #[.slice aw nw cw, .int .i64 p0, .int .u8 100, .bool vb, .bool up, .bool qu, .bool det, .bool dat, .bool bare, .bool thin, .int .i64 kd, .int .i64 wh, .string anc, .string arc, .slice an nl nc, .string ps] hb (by kernel_rfl) rfl rfl rfl ?_; intro W1 S1 q1)
  go_ret
  exact ⟨rfl, S1, q1⟩
set_option maxHeartbeats 1000000 in
theorem lt_operate_109 (b : Nat) (aw : Option Addr) (nw cw : Nat) (p0 on kd wh : Int) (vb up qu det dat bare thin : Bool) (anc arc ps : ByteArray) (an : Option Addr) (nl nc : Nat) (w : World) (hb : w.heap[b]? = some (.cells #[.slice aw nw cw, .int .i64 p0, .int .u8 0, .bool vb, .bool up, .bool qu, .bool det, .bool dat, .bool bare, .bool thin, .int .i64 kd, .int .i64 wh, .string anc, .string arc, .slice an nl nc, .string ps] 43 (0, 0))) :
    Calls Tryd.prog 42 #[.pointer (some ⟨b, 0, none⟩), .int .i32 109] w fun e w' => e = .returned (.int .i64 0) ∧ w'.heap[b]? = some (.cells #[.slice aw nw cw, .int .i64 p0, .int .u8 109, .bool vb, .bool up, .bool qu, .bool det, .bool dat, .bool bare, .bool thin, .int .i64 kd, .int .i64 wh, .string anc, .string arc, .slice an nl nc, .string ps] 43 (0, 0)) ∧ Kq b w w' := by
  have c1 := cell_rowK hb 2 _ rfl
  go_enter Tryd.func42, Tryd.ntmps42
  go_wp2_with (refine wpList_store_kz rfl rfl _ _ _ rfl b 2 (.int .u8 109) rfl rfl _ _ #[.slice aw nw cw, .int .i64 p0, .int .u8 109, .bool vb, .bool up, .bool qu, .bool det, .bool dat, .bool bare, .bool thin, .int .i64 kd, .int .i64 wh, .string anc, .string arc, .slice an nl nc, .string ps] hb (by kernel_rfl) rfl rfl rfl ?_; intro W1 S1 q1)
  go_ret
  exact ⟨rfl, S1, q1⟩
set_option maxHeartbeats 1000000 in
theorem lt_operates_109 (b : Nat) (aw : Option Addr) (nw cw : Nat) (p0 on kd wh : Int) (vb up qu det dat bare thin : Bool) (anc arc ps : ByteArray) (an : Option Addr) (nl nc : Nat) (w : World) (hb : w.heap[b]? = some (.cells #[.slice aw nw cw, .int .i64 p0, .int .u8 115, .bool vb, .bool up, .bool qu, .bool det, .bool dat, .bool bare, .bool thin, .int .i64 kd, .int .i64 wh, .string anc, .string arc, .slice an nl nc, .string ps] 43 (0, 0))) :
    Calls Tryd.prog 42 #[.pointer (some ⟨b, 0, none⟩), .int .i32 109] w fun e w' => e = .returned (.int .i64 0) ∧ w'.heap[b]? = some (.cells #[.slice aw nw cw, .int .i64 p0, .int .u8 109, .bool vb, .bool up, .bool qu, .bool det, .bool dat, .bool bare, .bool thin, .int .i64 kd, .int .i64 wh, .string anc, .string arc, .slice an nl nc, .string ps] 43 (0, 0)) ∧ Kq b w w' := by
  have c1 := cell_rowK hb 2 _ rfl
  go_enter Tryd.func42, Tryd.ntmps42
  go_wp2_with (refine wpList_store_kz rfl rfl _ _ _ rfl b 2 (.int .u8 109) rfl rfl _ _ #[.slice aw nw cw, .int .i64 p0, .int .u8 109, .bool vb, .bool up, .bool qu, .bool det, .bool dat, .bool bare, .bool thin, .int .i64 kd, .int .i64 wh, .string anc, .string arc, .slice an nl nc, .string ps] hb (by kernel_rfl) rfl rfl rfl ?_; intro W1 S1 q1)
  go_ret
  exact ⟨rfl, S1, q1⟩
set_option maxHeartbeats 1000000 in
theorem lt_operate_112 (b : Nat) (aw : Option Addr) (nw cw : Nat) (p0 on kd wh : Int) (vb up qu det dat bare thin : Bool) (anc arc ps : ByteArray) (an : Option Addr) (nl nc : Nat) (w : World) (hb : w.heap[b]? = some (.cells #[.slice aw nw cw, .int .i64 p0, .int .u8 0, .bool vb, .bool up, .bool qu, .bool det, .bool dat, .bool bare, .bool thin, .int .i64 kd, .int .i64 wh, .string anc, .string arc, .slice an nl nc, .string ps] 43 (0, 0))) :
    Calls Tryd.prog 42 #[.pointer (some ⟨b, 0, none⟩), .int .i32 112] w fun e w' => e = .returned (.int .i64 0) ∧ w'.heap[b]? = some (.cells #[.slice aw nw cw, .int .i64 p0, .int .u8 112, .bool vb, .bool up, .bool qu, .bool det, .bool dat, .bool bare, .bool thin, .int .i64 kd, .int .i64 wh, .string anc, .string arc, .slice an nl nc, .string ps] 43 (0, 0)) ∧ Kq b w w' := by
  have c1 := cell_rowK hb 2 _ rfl
  go_enter Tryd.func42, Tryd.ntmps42
  go_wp2_with (refine wpList_store_kz rfl rfl _ _ _ rfl b 2 (.int .u8 112) rfl rfl _ _ #[.slice aw nw cw, .int .i64 p0, .int .u8 112, .bool vb, .bool up, .bool qu, .bool det, .bool dat, .bool bare, .bool thin, .int .i64 kd, .int .i64 wh, .string anc, .string arc, .slice an nl nc, .string ps] hb (by kernel_rfl) rfl rfl rfl ?_; intro W1 S1 q1)
  go_ret
  exact ⟨rfl, S1, q1⟩
set_option maxHeartbeats 1000000 in
theorem lt_operates_112 (b : Nat) (aw : Option Addr) (nw cw : Nat) (p0 on kd wh : Int) (vb up qu det dat bare thin : Bool) (anc arc ps : ByteArray) (an : Option Addr) (nl nc : Nat) (w : World) (hb : w.heap[b]? = some (.cells #[.slice aw nw cw, .int .i64 p0, .int .u8 115, .bool vb, .bool up, .bool qu, .bool det, .bool dat, .bool bare, .bool thin, .int .i64 kd, .int .i64 wh, .string anc, .string arc, .slice an nl nc, .string ps] 43 (0, 0))) :
    Calls Tryd.prog 42 #[.pointer (some ⟨b, 0, none⟩), .int .i32 112] w fun e w' => e = .returned (.int .i64 0) ∧ w'.heap[b]? = some (.cells #[.slice aw nw cw, .int .i64 p0, .int .u8 112, .bool vb, .bool up, .bool qu, .bool det, .bool dat, .bool bare, .bool thin, .int .i64 kd, .int .i64 wh, .string anc, .string arc, .slice an nl nc, .string ps] 43 (0, 0)) ∧ Kq b w w' := by
  have c1 := cell_rowK hb 2 _ rfl
  go_enter Tryd.func42, Tryd.ntmps42
  go_wp2_with (refine wpList_store_kz rfl rfl _ _ _ rfl b 2 (.int .u8 112) rfl rfl _ _ #[.slice aw nw cw, .int .i64 p0, .int .u8 112, .bool vb, .bool up, .bool qu, .bool det, .bool dat, .bool bare, .bool thin, .int .i64 kd, .int .i64 wh, .string anc, .string arc, .slice an nl nc, .string ps] hb (by kernel_rfl) rfl rfl rfl ?_; intro W1 S1 q1)
  go_ret
  exact ⟨rfl, S1, q1⟩
set_option maxHeartbeats 1000000 in
theorem lt_operate_113 (b : Nat) (aw : Option Addr) (nw cw : Nat) (p0 on kd wh : Int) (vb up qu det dat bare thin : Bool) (anc arc ps : ByteArray) (an : Option Addr) (nl nc : Nat) (w : World) (hb : w.heap[b]? = some (.cells #[.slice aw nw cw, .int .i64 p0, .int .u8 0, .bool vb, .bool up, .bool qu, .bool det, .bool dat, .bool bare, .bool thin, .int .i64 kd, .int .i64 wh, .string anc, .string arc, .slice an nl nc, .string ps] 43 (0, 0))) :
    Calls Tryd.prog 42 #[.pointer (some ⟨b, 0, none⟩), .int .i32 113] w fun e w' => e = .returned (.int .i64 0) ∧ w'.heap[b]? = some (.cells #[.slice aw nw cw, .int .i64 p0, .int .u8 113, .bool vb, .bool up, .bool qu, .bool det, .bool dat, .bool bare, .bool thin, .int .i64 kd, .int .i64 wh, .string anc, .string arc, .slice an nl nc, .string ps] 43 (0, 0)) ∧ Kq b w w' := by
  have c1 := cell_rowK hb 2 _ rfl
  go_enter Tryd.func42, Tryd.ntmps42
  go_wp2_with (refine wpList_store_kz rfl rfl _ _ _ rfl b 2 (.int .u8 113) rfl rfl _ _ #[.slice aw nw cw, .int .i64 p0, .int .u8 113, .bool vb, .bool up, .bool qu, .bool det, .bool dat, .bool bare, .bool thin, .int .i64 kd, .int .i64 wh, .string anc, .string arc, .slice an nl nc, .string ps] hb (by kernel_rfl) rfl rfl rfl ?_; intro W1 S1 q1)
  go_ret
  exact ⟨rfl, S1, q1⟩
set_option maxHeartbeats 1000000 in
theorem lt_operates_113 (b : Nat) (aw : Option Addr) (nw cw : Nat) (p0 on kd wh : Int) (vb up qu det dat bare thin : Bool) (anc arc ps : ByteArray) (an : Option Addr) (nl nc : Nat) (w : World) (hb : w.heap[b]? = some (.cells #[.slice aw nw cw, .int .i64 p0, .int .u8 115, .bool vb, .bool up, .bool qu, .bool det, .bool dat, .bool bare, .bool thin, .int .i64 kd, .int .i64 wh, .string anc, .string arc, .slice an nl nc, .string ps] 43 (0, 0))) :
    Calls Tryd.prog 42 #[.pointer (some ⟨b, 0, none⟩), .int .i32 113] w fun e w' => e = .returned (.int .i64 0) ∧ w'.heap[b]? = some (.cells #[.slice aw nw cw, .int .i64 p0, .int .u8 113, .bool vb, .bool up, .bool qu, .bool det, .bool dat, .bool bare, .bool thin, .int .i64 kd, .int .i64 wh, .string anc, .string arc, .slice an nl nc, .string ps] 43 (0, 0)) ∧ Kq b w w' := by
  have c1 := cell_rowK hb 2 _ rfl
  go_enter Tryd.func42, Tryd.ntmps42
  go_wp2_with (refine wpList_store_kz rfl rfl _ _ _ rfl b 2 (.int .u8 113) rfl rfl _ _ #[.slice aw nw cw, .int .i64 p0, .int .u8 113, .bool vb, .bool up, .bool qu, .bool det, .bool dat, .bool bare, .bool thin, .int .i64 kd, .int .i64 wh, .string anc, .string arc, .slice an nl nc, .string ps] hb (by kernel_rfl) rfl rfl rfl ?_; intro W1 S1 q1)
  go_ret
  exact ⟨rfl, S1, q1⟩
set_option maxHeartbeats 1000000 in
theorem lt_operate_114 (b : Nat) (aw : Option Addr) (nw cw : Nat) (p0 on kd wh : Int) (vb up qu det dat bare thin : Bool) (anc arc ps : ByteArray) (an : Option Addr) (nl nc : Nat) (w : World) (hb : w.heap[b]? = some (.cells #[.slice aw nw cw, .int .i64 p0, .int .u8 0, .bool vb, .bool up, .bool qu, .bool det, .bool dat, .bool bare, .bool thin, .int .i64 kd, .int .i64 wh, .string anc, .string arc, .slice an nl nc, .string ps] 43 (0, 0))) :
    Calls Tryd.prog 42 #[.pointer (some ⟨b, 0, none⟩), .int .i32 114] w fun e w' => e = .returned (.int .i64 0) ∧ w'.heap[b]? = some (.cells #[.slice aw nw cw, .int .i64 p0, .int .u8 114, .bool vb, .bool up, .bool qu, .bool det, .bool dat, .bool bare, .bool thin, .int .i64 kd, .int .i64 wh, .string anc, .string arc, .slice an nl nc, .string ps] 43 (0, 0)) ∧ Kq b w w' := by
  have c1 := cell_rowK hb 2 _ rfl
  go_enter Tryd.func42, Tryd.ntmps42
  go_wp2_with (refine wpList_store_kz rfl rfl _ _ _ rfl b 2 (.int .u8 114) rfl rfl _ _ #[.slice aw nw cw, .int .i64 p0, .int .u8 114, .bool vb, .bool up, .bool qu, .bool det, .bool dat, .bool bare, .bool thin, .int .i64 kd, .int .i64 wh, .string anc, .string arc, .slice an nl nc, .string ps] hb (by kernel_rfl) rfl rfl rfl ?_; intro W1 S1 q1)
  go_ret
  exact ⟨rfl, S1, q1⟩
set_option maxHeartbeats 1000000 in
theorem lt_operates_114 (b : Nat) (aw : Option Addr) (nw cw : Nat) (p0 on kd wh : Int) (vb up qu det dat bare thin : Bool) (anc arc ps : ByteArray) (an : Option Addr) (nl nc : Nat) (w : World) (hb : w.heap[b]? = some (.cells #[.slice aw nw cw, .int .i64 p0, .int .u8 115, .bool vb, .bool up, .bool qu, .bool det, .bool dat, .bool bare, .bool thin, .int .i64 kd, .int .i64 wh, .string anc, .string arc, .slice an nl nc, .string ps] 43 (0, 0))) :
    Calls Tryd.prog 42 #[.pointer (some ⟨b, 0, none⟩), .int .i32 114] w fun e w' => e = .returned (.int .i64 0) ∧ w'.heap[b]? = some (.cells #[.slice aw nw cw, .int .i64 p0, .int .u8 114, .bool vb, .bool up, .bool qu, .bool det, .bool dat, .bool bare, .bool thin, .int .i64 kd, .int .i64 wh, .string anc, .string arc, .slice an nl nc, .string ps] 43 (0, 0)) ∧ Kq b w w' := by
  have c1 := cell_rowK hb 2 _ rfl
  go_enter Tryd.func42, Tryd.ntmps42
  go_wp2_with (refine wpList_store_kz rfl rfl _ _ _ rfl b 2 (.int .u8 114) rfl rfl _ _ #[.slice aw nw cw, .int .i64 p0, .int .u8 114, .bool vb, .bool up, .bool qu, .bool det, .bool dat, .bool bare, .bool thin, .int .i64 kd, .int .i64 wh, .string anc, .string arc, .slice an nl nc, .string ps] hb (by kernel_rfl) rfl rfl rfl ?_; intro W1 S1 q1)
  go_ret
  exact ⟨rfl, S1, q1⟩
set_option maxHeartbeats 1000000 in
theorem lt_operate_116 (b : Nat) (aw : Option Addr) (nw cw : Nat) (p0 on kd wh : Int) (vb up qu det dat bare thin : Bool) (anc arc ps : ByteArray) (an : Option Addr) (nl nc : Nat) (w : World) (hb : w.heap[b]? = some (.cells #[.slice aw nw cw, .int .i64 p0, .int .u8 0, .bool vb, .bool up, .bool qu, .bool det, .bool dat, .bool bare, .bool thin, .int .i64 kd, .int .i64 wh, .string anc, .string arc, .slice an nl nc, .string ps] 43 (0, 0))) :
    Calls Tryd.prog 42 #[.pointer (some ⟨b, 0, none⟩), .int .i32 116] w fun e w' => e = .returned (.int .i64 0) ∧ w'.heap[b]? = some (.cells #[.slice aw nw cw, .int .i64 p0, .int .u8 116, .bool vb, .bool up, .bool qu, .bool det, .bool dat, .bool bare, .bool thin, .int .i64 kd, .int .i64 wh, .string anc, .string arc, .slice an nl nc, .string ps] 43 (0, 0)) ∧ Kq b w w' := by
  have c1 := cell_rowK hb 2 _ rfl
  go_enter Tryd.func42, Tryd.ntmps42
  go_wp2_with (refine wpList_store_kz rfl rfl _ _ _ rfl b 2 (.int .u8 116) rfl rfl _ _ #[.slice aw nw cw, .int .i64 p0, .int .u8 116, .bool vb, .bool up, .bool qu, .bool det, .bool dat, .bool bare, .bool thin, .int .i64 kd, .int .i64 wh, .string anc, .string arc, .slice an nl nc, .string ps] hb (by kernel_rfl) rfl rfl rfl ?_; intro W1 S1 q1)
  go_ret
  exact ⟨rfl, S1, q1⟩
set_option maxHeartbeats 1000000 in
theorem lt_operates_116 (b : Nat) (aw : Option Addr) (nw cw : Nat) (p0 on kd wh : Int) (vb up qu det dat bare thin : Bool) (anc arc ps : ByteArray) (an : Option Addr) (nl nc : Nat) (w : World) (hb : w.heap[b]? = some (.cells #[.slice aw nw cw, .int .i64 p0, .int .u8 115, .bool vb, .bool up, .bool qu, .bool det, .bool dat, .bool bare, .bool thin, .int .i64 kd, .int .i64 wh, .string anc, .string arc, .slice an nl nc, .string ps] 43 (0, 0))) :
    Calls Tryd.prog 42 #[.pointer (some ⟨b, 0, none⟩), .int .i32 116] w fun e w' => e = .returned (.int .i64 0) ∧ w'.heap[b]? = some (.cells #[.slice aw nw cw, .int .i64 p0, .int .u8 116, .bool vb, .bool up, .bool qu, .bool det, .bool dat, .bool bare, .bool thin, .int .i64 kd, .int .i64 wh, .string anc, .string arc, .slice an nl nc, .string ps] 43 (0, 0)) ∧ Kq b w w' := by
  have c1 := cell_rowK hb 2 _ rfl
  go_enter Tryd.func42, Tryd.ntmps42
  go_wp2_with (refine wpList_store_kz rfl rfl _ _ _ rfl b 2 (.int .u8 116) rfl rfl _ _ #[.slice aw nw cw, .int .i64 p0, .int .u8 116, .bool vb, .bool up, .bool qu, .bool det, .bool dat, .bool bare, .bool thin, .int .i64 kd, .int .i64 wh, .string anc, .string arc, .slice an nl nc, .string ps] hb (by kernel_rfl) rfl rfl rfl ?_; intro W1 S1 q1)
  go_ret
  exact ⟨rfl, S1, q1⟩
set_option maxHeartbeats 1000000 in
theorem lt_operate_120 (b : Nat) (aw : Option Addr) (nw cw : Nat) (p0 on kd wh : Int) (vb up qu det dat bare thin : Bool) (anc arc ps : ByteArray) (an : Option Addr) (nl nc : Nat) (w : World) (hb : w.heap[b]? = some (.cells #[.slice aw nw cw, .int .i64 p0, .int .u8 0, .bool vb, .bool up, .bool qu, .bool det, .bool dat, .bool bare, .bool thin, .int .i64 kd, .int .i64 wh, .string anc, .string arc, .slice an nl nc, .string ps] 43 (0, 0))) :
    Calls Tryd.prog 42 #[.pointer (some ⟨b, 0, none⟩), .int .i32 120] w fun e w' => e = .returned (.int .i64 0) ∧ w'.heap[b]? = some (.cells #[.slice aw nw cw, .int .i64 p0, .int .u8 120, .bool vb, .bool up, .bool qu, .bool det, .bool dat, .bool bare, .bool thin, .int .i64 kd, .int .i64 wh, .string anc, .string arc, .slice an nl nc, .string ps] 43 (0, 0)) ∧ Kq b w w' := by
  have c1 := cell_rowK hb 2 _ rfl
  go_enter Tryd.func42, Tryd.ntmps42
  go_wp2_with (refine wpList_store_kz rfl rfl _ _ _ rfl b 2 (.int .u8 120) rfl rfl _ _ #[.slice aw nw cw, .int .i64 p0, .int .u8 120, .bool vb, .bool up, .bool qu, .bool det, .bool dat, .bool bare, .bool thin, .int .i64 kd, .int .i64 wh, .string anc, .string arc, .slice an nl nc, .string ps] hb (by kernel_rfl) rfl rfl rfl ?_; intro W1 S1 q1)
  go_ret
  exact ⟨rfl, S1, q1⟩
set_option maxHeartbeats 1000000 in
theorem lt_operates_120 (b : Nat) (aw : Option Addr) (nw cw : Nat) (p0 on kd wh : Int) (vb up qu det dat bare thin : Bool) (anc arc ps : ByteArray) (an : Option Addr) (nl nc : Nat) (w : World) (hb : w.heap[b]? = some (.cells #[.slice aw nw cw, .int .i64 p0, .int .u8 115, .bool vb, .bool up, .bool qu, .bool det, .bool dat, .bool bare, .bool thin, .int .i64 kd, .int .i64 wh, .string anc, .string arc, .slice an nl nc, .string ps] 43 (0, 0))) :
    Calls Tryd.prog 42 #[.pointer (some ⟨b, 0, none⟩), .int .i32 120] w fun e w' => e = .returned (.int .i64 0) ∧ w'.heap[b]? = some (.cells #[.slice aw nw cw, .int .i64 p0, .int .u8 120, .bool vb, .bool up, .bool qu, .bool det, .bool dat, .bool bare, .bool thin, .int .i64 kd, .int .i64 wh, .string anc, .string arc, .slice an nl nc, .string ps] 43 (0, 0)) ∧ Kq b w w' := by
  have c1 := cell_rowK hb 2 _ rfl
  go_enter Tryd.func42, Tryd.ntmps42
  go_wp2_with (refine wpList_store_kz rfl rfl _ _ _ rfl b 2 (.int .u8 120) rfl rfl _ _ #[.slice aw nw cw, .int .i64 p0, .int .u8 120, .bool vb, .bool up, .bool qu, .bool det, .bool dat, .bool bare, .bool thin, .int .i64 kd, .int .i64 wh, .string anc, .string arc, .slice an nl nc, .string ps] hb (by kernel_rfl) rfl rfl rfl ?_; intro W1 S1 q1)
  go_ret
  exact ⟨rfl, S1, q1⟩
set_option maxHeartbeats 1000000 in
theorem lt_operate2 (b : Nat) (aw : Option Addr) (nw cw : Nat) (p0 on kd wh : Int) (vb up qu det dat bare thin : Bool) (anc arc ps : ByteArray) (an : Option Addr) (nl nc : Nat) (w : World) (n : Int) (hb : w.heap[b]? = some (.cells #[.slice aw nw cw, .int .i64 p0, .int .u8 on, .bool vb, .bool up, .bool qu, .bool det, .bool dat, .bool bare, .bool thin, .int .i64 kd, .int .i64 wh, .string anc, .string arc, .slice an nl nc, .string ps] 43 (0, 0))) (h0 : (on != 0) = true) (h1 : (on != 115) = true) :
    Calls Tryd.prog 42 #[.pointer (some ⟨b, 0, none⟩), .int .i32 n] w fun e w' => e = .returned (.int .i64 152) ∧ w' = w := by
  have c1 := cell_rowK hb 2 _ rfl
  go_enter Tryd.func42, Tryd.ntmps42
  go_wp2
  go_ret
  exact ⟨rfl, rfl⟩
set_option maxHeartbeats 1000000 in
theorem lt_index (b : Nat) (aw : Option Addr) (nw cw : Nat) (p0 on kd wh : Int) (vb up qu det dat bare thin : Bool) (anc arc ps : ByteArray) (an : Option Addr) (nl nc : Nat) (w : World) (n : Int) (hb : w.heap[b]? = some (.cells #[.slice aw nw cw, .int .i64 p0, .int .u8 0, .bool vb, .bool up, .bool qu, .bool det, .bool dat, .bool bare, .bool thin, .int .i64 kd, .int .i64 wh, .string anc, .string arc, .slice an nl nc, .string ps] 43 (0, 0))) :
    Calls Tryd.prog 43 #[.pointer (some ⟨b, 0, none⟩), .int .i32 n] w fun e w' => e = .returned (.int .i64 0) ∧ w'.heap[b]? = some (.cells #[.slice aw nw cw, .int .i64 p0, .int .u8 115, .bool vb, .bool up, .bool qu, .bool det, .bool dat, .bool bare, .bool thin, .int .i64 kd, .int .i64 wh, .string anc, .string arc, .slice an nl nc, .string ps] 43 (0, 0)) ∧ Kq b w w' := by
  have c1 := cell_rowK hb 2 _ rfl
  go_enter Tryd.func43, Tryd.ntmps43
  go_wp2_with (refine wpList_store_kz rfl rfl _ _ _ rfl b 2 (.int .u8 115) rfl rfl _ _ #[.slice aw nw cw, .int .i64 p0, .int .u8 115, .bool vb, .bool up, .bool qu, .bool det, .bool dat, .bool bare, .bool thin, .int .i64 kd, .int .i64 wh, .string anc, .string arc, .slice an nl nc, .string ps] hb (by kernel_rfl) rfl rfl rfl ?_; intro W1 S1 q1)
  go_ret
  exact ⟨rfl, S1, q1⟩
set_option maxHeartbeats 1000000 in
theorem lt_index2 (b : Nat) (aw : Option Addr) (nw cw : Nat) (p0 on kd wh : Int) (vb up qu det dat bare thin : Bool) (anc arc ps : ByteArray) (an : Option Addr) (nl nc : Nat) (w : World) (n : Int) (hb : w.heap[b]? = some (.cells #[.slice aw nw cw, .int .i64 p0, .int .u8 on, .bool vb, .bool up, .bool qu, .bool det, .bool dat, .bool bare, .bool thin, .int .i64 kd, .int .i64 wh, .string anc, .string arc, .slice an nl nc, .string ps] 43 (0, 0))) (ho : (on == 0) = false) :
    Calls Tryd.prog 43 #[.pointer (some ⟨b, 0, none⟩), .int .i32 n] w fun e w' => e = .returned (.int .i64 0) ∧ w' = w := by
  have c1 := cell_rowK hb 2 _ rfl
  go_enter Tryd.func43, Tryd.ntmps43
  go_wp2
  go_ret
  exact ⟨rfl, rfl⟩
set_option maxHeartbeats 1000000 in
theorem lt_place_97 (b : Nat) (aw : Option Addr) (nw cw : Nat) (p0 on kd wh : Int) (vb up qu det dat bare thin : Bool) (anc arc ps : ByteArray) (an : Option Addr) (nl nc : Nat) (w : World) (hb : w.heap[b]? = some (.cells #[.slice aw nw cw, .int .i64 p0, .int .u8 on, .bool vb, .bool up, .bool qu, .bool det, .bool dat, .bool bare, .bool thin, .int .i64 kd, .int .i64 wh, .string anc, .string arc, .slice an nl nc, .string ⟨#[]⟩] 43 (0, 0))) :
    Calls Tryd.prog 44 #[.pointer (some ⟨b, 0, none⟩), .int .i32 97] w fun e w' => e = .returned (.int .i64 0) ∧ w'.heap[b]? = some (.cells #[.slice aw nw cw, .int .i64 p0, .int .u8 on, .bool vb, .bool up, .bool qu, .bool det, .bool dat, .bool bare, .bool thin, .int .i64 kd, .int .i64 1, .string anc, .string arc, .slice an nl nc, .string ⟨#[97]⟩] 43 (0, 0)) ∧ Kq b w w' := by
  have c1 := cell_rowK hb 15 _ rfl
  go_enter Tryd.func44, Tryd.ntmps44
  go_wp2_with (first | (refine wpList_store_kz rfl rfl _ _ _ rfl b 15 (.string ⟨#[97]⟩) rfl rfl _ _ #[.slice aw nw cw, .int .i64 p0, .int .u8 on, .bool vb, .bool up, .bool qu, .bool det, .bool dat, .bool bare, .bool thin, .int .i64 kd, .int .i64 wh, .string anc, .string arc, .slice an nl nc, .string ⟨#[97]⟩] hb (by kernel_rfl) rfl rfl rfl ?_; intro W1 S1 q1) | (refine wpList_store_kz rfl rfl _ _ _ rfl b 11 (.int .i64 1) rfl rfl _ _ #[.slice aw nw cw, .int .i64 p0, .int .u8 on, .bool vb, .bool up, .bool qu, .bool det, .bool dat, .bool bare, .bool thin, .int .i64 kd, .int .i64 1, .string anc, .string arc, .slice an nl nc, .string ⟨#[97]⟩] S1 (by kernel_rfl) rfl rfl rfl ?_; intro W2 S2 q2))
  go_ret
  exact ⟨rfl, S2, q1.two q2⟩
set_option maxHeartbeats 1000000 in
theorem lt_place_98 (b : Nat) (aw : Option Addr) (nw cw : Nat) (p0 on kd wh : Int) (vb up qu det dat bare thin : Bool) (anc arc ps : ByteArray) (an : Option Addr) (nl nc : Nat) (w : World) (hb : w.heap[b]? = some (.cells #[.slice aw nw cw, .int .i64 p0, .int .u8 on, .bool vb, .bool up, .bool qu, .bool det, .bool dat, .bool bare, .bool thin, .int .i64 kd, .int .i64 wh, .string anc, .string arc, .slice an nl nc, .string ⟨#[]⟩] 43 (0, 0))) :
    Calls Tryd.prog 44 #[.pointer (some ⟨b, 0, none⟩), .int .i32 98] w fun e w' => e = .returned (.int .i64 0) ∧ w'.heap[b]? = some (.cells #[.slice aw nw cw, .int .i64 p0, .int .u8 on, .bool vb, .bool up, .bool qu, .bool det, .bool dat, .bool bare, .bool thin, .int .i64 kd, .int .i64 2, .string anc, .string arc, .slice an nl nc, .string ⟨#[98]⟩] 43 (0, 0)) ∧ Kq b w w' := by
  have c1 := cell_rowK hb 15 _ rfl
  go_enter Tryd.func44, Tryd.ntmps44
  go_wp2_with (first | (refine wpList_store_kz rfl rfl _ _ _ rfl b 15 (.string ⟨#[98]⟩) rfl rfl _ _ #[.slice aw nw cw, .int .i64 p0, .int .u8 on, .bool vb, .bool up, .bool qu, .bool det, .bool dat, .bool bare, .bool thin, .int .i64 kd, .int .i64 wh, .string anc, .string arc, .slice an nl nc, .string ⟨#[98]⟩] hb (by kernel_rfl) rfl rfl rfl ?_; intro W1 S1 q1) | (refine wpList_store_kz rfl rfl _ _ _ rfl b 11 (.int .i64 2) rfl rfl _ _ #[.slice aw nw cw, .int .i64 p0, .int .u8 on, .bool vb, .bool up, .bool qu, .bool det, .bool dat, .bool bare, .bool thin, .int .i64 kd, .int .i64 2, .string anc, .string arc, .slice an nl nc, .string ⟨#[98]⟩] S1 (by kernel_rfl) rfl rfl rfl ?_; intro W2 S2 q2))
  go_ret
  exact ⟨rfl, S2, q1.two q2⟩
set_option maxHeartbeats 1000000 in
theorem lt_place_105 (b : Nat) (aw : Option Addr) (nw cw : Nat) (p0 on kd wh : Int) (vb up qu det dat bare thin : Bool) (anc arc ps : ByteArray) (an : Option Addr) (nl nc : Nat) (w : World) (hb : w.heap[b]? = some (.cells #[.slice aw nw cw, .int .i64 p0, .int .u8 on, .bool vb, .bool up, .bool qu, .bool det, .bool dat, .bool bare, .bool thin, .int .i64 kd, .int .i64 wh, .string anc, .string arc, .slice an nl nc, .string ⟨#[]⟩] 43 (0, 0))) :
    Calls Tryd.prog 44 #[.pointer (some ⟨b, 0, none⟩), .int .i32 105] w fun e w' => e = .returned (.int .i64 0) ∧ w'.heap[b]? = some (.cells #[.slice aw nw cw, .int .i64 p0, .int .u8 on, .bool vb, .bool up, .bool qu, .bool det, .bool dat, .bool bare, .bool thin, .int .i64 kd, .int .i64 2, .string anc, .string arc, .slice an nl nc, .string ⟨#[105]⟩] 43 (0, 0)) ∧ Kq b w w' := by
  have c1 := cell_rowK hb 15 _ rfl
  go_enter Tryd.func44, Tryd.ntmps44
  go_wp2_with (first | (refine wpList_store_kz rfl rfl _ _ _ rfl b 15 (.string ⟨#[105]⟩) rfl rfl _ _ #[.slice aw nw cw, .int .i64 p0, .int .u8 on, .bool vb, .bool up, .bool qu, .bool det, .bool dat, .bool bare, .bool thin, .int .i64 kd, .int .i64 wh, .string anc, .string arc, .slice an nl nc, .string ⟨#[105]⟩] hb (by kernel_rfl) rfl rfl rfl ?_; intro W1 S1 q1) | (refine wpList_store_kz rfl rfl _ _ _ rfl b 11 (.int .i64 2) rfl rfl _ _ #[.slice aw nw cw, .int .i64 p0, .int .u8 on, .bool vb, .bool up, .bool qu, .bool det, .bool dat, .bool bare, .bool thin, .int .i64 kd, .int .i64 2, .string anc, .string arc, .slice an nl nc, .string ⟨#[105]⟩] S1 (by kernel_rfl) rfl rfl rfl ?_; intro W2 S2 q2))
  go_ret
  exact ⟨rfl, S2, q1.two q2⟩
set_option maxHeartbeats 1000000 in
theorem lt_place2 (b : Nat) (aw : Option Addr) (nw cw : Nat) (p0 on kd wh : Int) (vb up qu det dat bare thin : Bool) (anc arc ps : ByteArray) (an : Option Addr) (nl nc : Nat) (w : World) (n : Int) (hb : w.heap[b]? = some (.cells #[.slice aw nw cw, .int .i64 p0, .int .u8 on, .bool vb, .bool up, .bool qu, .bool det, .bool dat, .bool bare, .bool thin, .int .i64 kd, .int .i64 wh, .string anc, .string arc, .slice an nl nc, .string ps] 43 (0, 0))) (hp : (ps.toList == []) = false) (hp2 : ps.toList.isEmpty = false) :
    Calls Tryd.prog 44 #[.pointer (some ⟨b, 0, none⟩), .int .i32 n] w fun e w' => e = .returned (.int .i64 155) ∧ w' = w := by
  have c1 := cell_rowK hb 15 _ rfl
  go_enter Tryd.func44, Tryd.ntmps44
  go_wp2
  go_ret
  exact ⟨rfl, rfl⟩
end Go.Proofs.YtmhamlhmmkbkaaaDoor
