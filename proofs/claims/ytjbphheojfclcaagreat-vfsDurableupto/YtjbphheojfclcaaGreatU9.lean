
-- The volume's calls.
import Derived.Test.YtjbphheojfclcaaGreatU7
import Derived.Test.YtjbphheojfclcaaGreatU8
namespace Go.Proofs.YtjbphheojfclcaaGreat
open Go.RowKit
set_option linter.unusedVariables false
variable {PS : (Nat → Prop) → Nat → St → World → Prop}
/-- ev is the error of this Errno (none, if it is 0), made from block B on. -/
def ErrIs (w : World) (B : Nat) (op name : ByteArray) (e : Nat) (ev : Value) : Prop :=
  (e = 0 ∧ ev = .nilIface) ∨ (e ≠ 0 ∧ ∃ b, B ≤ b ∧ ev = .iface 122 (.pointer (some ⟨b, 0, none⟩)) ∧ w.heap[b]? = some (.cells #[.string op, .string name, .int .i64 e] 32 (0, 0)))
theorem ErrIs.below {w w' : World} {B : Nat} {op name : ByteArray} {e : Nat} {ev : Value} (h : ErrIs w B op name e ev) (hb : Below w.heap.size w w') : ErrIs w' B op name e ev := by
  rcases h with h | ⟨h0, b, h1, h2, h3⟩
  · exact .inl h
  · exact .inr ⟨h0, b, h1, h2, (hb.block b (Array.getElem?_eq_some_iff.1 h3).1).trans h3⟩
theorem ErrIs.kept {F : Nat → Prop} {w w' : World} {B : Nat} {op name : ByteArray} {e : Nat} {ev : Value} (h : ErrIs w B op name e ev) (hk : Kp F w w') (hF : ∀ k, F k → k < B) : ErrIs w' B op name e ev := by
  rcases h with h | ⟨h0, b, h1, h2, h3⟩
  · exact .inl h
  · exact .inr ⟨h0, b, h1, h2, (hk.block b (Array.getElem?_eq_some_iff.1 h3).1 (fun h' => by have := hF b h'; omega)).trans h3⟩
theorem ErrIs.low {w : World} {B B' : Nat} {op name : ByteArray} {e : Nat} {ev : Value} (h : ErrIs w B op name e ev) (hB : B' ≤ B) : ErrIs w B' op name e ev := by
  rcases h with h | ⟨h0, b, h1, h2, h3⟩
  · exact .inl h
  · exact .inr ⟨h0, b, by omega, h2, h3⟩
/-- What a call on it has done, and the error that it told, which lies beside the volume's memory. -/
def EDid (PS : (Nat → Prop) → Nat → St → World → Prop) (G : Nat → Prop) (q : Nat) (v : Vs) (w w' : World) (op name : ByteArray) (e : Nat) (ev : Value) : Prop :=
  ∃ B, w.heap.size ≤ B ∧ B ≤ w'.heap.size ∧ ErrIs w' B op name e ev ∧ PV PS (fun k => G k ∨ (w.heap.size ≤ k ∧ k < B)) q v w' ∧ Kp G w w'
theorem EDid.weak {G : Nat → Prop} {q : Nat} {v : Vs} {w w' : World} {op name : ByteArray} {e : Nat} {ev : Value} (h : EDid PS G q v w w' op name e ev) : ErrIs w' w.heap.size op name e ev ∧ VDid PS G q v w w' := by
  obtain ⟨B, h1, h2, h3, h4, h5⟩ := h
  refine ⟨h3.low h1, h4.mono (fun k hk => ?_) (fun k hk => ?_), h5⟩
  · rcases hk with hk | hk
    · exact .inl hk
    · exact .inr ⟨hk.1, by omega⟩
  · rcases hk with hk | hk
    · exact h4.low k (.inl hk)
    · exact hk.2
theorem EDid.of (C : PC PS) {G : Nat → Prop} {q : Nat} {v : Vs} {w W W' : World} {op name : ByteArray} {e : Nat} {ev : Value} (h1 : VDid PS G q v w W) (h2 : ErrIs W' W.heap.size op name e ev) (h3 : Below W.heap.size W W') : EDid PS G q v w W' op name e ev :=
  ⟨W.heap.size, h1.2.size, h3.size, h2, h1.1.below C h3, h1.2.kept h3⟩
theorem EDid.still (C : PC PS) {G : Nat → Prop} {q : Nat} {v : Vs} {w W W' : World} {op name : ByteArray} {e : Nat} {ev : Value} (h : PV PS G q v w) (h1 : Below w.heap.size w W) (h2 : ErrIs W' W.heap.size op name e ev) (h3 : Below W.heap.size W W') : EDid PS G q v w W' op name e ev :=
  EDid.of C (VDid.of (h.below C h1) (Kp.of_below h1)) h2 h3
set_option maxHeartbeats 4000000 in
theorem failed_c (op name : ByteArray) (e : Nat) (w : World) :
    Calls Tryz.prog 56 #[.string op, .string name, .int .i64 e] w fun r w' => ∃ ev, r = .returned ev ∧ ErrIs w' w.heap.size op name e ev ∧ Below w.heap.size w w' := by
  rcases Nat.eq_zero_or_pos e with rfl | he
  · go_enter Tryz.func56, Tryz.ntmps56
    go_wp2
    go_returns
    exact ⟨_, rfl, .inl ⟨rfl, rfl⟩, Below.refl _ _⟩
  · have b1 : ((e : Int) == 0) = false := by simp; omega
    go_enter Tryz.func56, Tryz.ntmps56
    go_wp2
    go_returns
    exact ⟨_, rfl, .inr ⟨by omega, w.heap.size, Nat.le_refl _, rfl, heap_alloc_new _ _⟩, (Below.refl _ w).alloc (Nat.le_refl _) _⟩
set_option maxHeartbeats 4000000 in
theorem device_c (G : Nat → Prop) (q : Nat) (v : Vs) (w : World) (h : PV PS G q v w) :
    Calls Tryz.prog 41 #[.pointer (some ⟨q, 0, none⟩)] w fun e w' => e = .returned (.iface 134 (.pointer (some ⟨q, 0, none⟩))) ∧ w' = w := by
  obtain ⟨p, m, Fd, O⟩ := h
  have c0 := O.cell0
  clear O
  go_enter Tryz.func41, Tryz.ntmps41
  go_wp2
  go_returns
  exact ⟨rfl, rfl⟩
set_option maxHeartbeats 4000000 in
theorem fRead_c (C : PC PS) (G : Nat → Prop) (q : Nat) (v : Vs) (name : ByteArray) (w : World) (h : PV PS G q v w) (hw : Wf v.st) (hn : v.cnt ≤ 4194304) :
    Calls Tryz.prog 30 #[.pointer (some ⟨q, 0, none⟩), .string name] w fun e w' => ∃ ev, e = .returned (.tuple #[.string (v.read name).1.1, ev]) ∧ ErrIs w' w.heap.size ⟨#[114, 101, 97, 100]⟩ name (v.read name).1.2 ev ∧ VDid PS G q (v.read name).2 w w' := by
  have HDev : Hid (Calls Tryz.prog 41 #[.pointer (some ⟨q, 0, none⟩)] w fun e w' => e = .returned (.iface 134 (.pointer (some ⟨q, 0, none⟩))) ∧ w' = w) := device_c G q v w h
  have HFa : Hid (∀ (e : Nat) w, Calls Tryz.prog 56 #[.string ⟨#[114, 101, 97, 100]⟩, .string name, .int .i64 e] w fun r w' => ∃ ev, r = .returned ev ∧ ErrIs w' w.heap.size ⟨#[114, 101, 97, 100]⟩ name e ev ∧ Below w.heap.size w w') := fun e w => failed_c _ _ e w
  have HB : Hid (∀ (v' : Vs) W W' (e : Nat) ev, VDid PS G q v' w W → ErrIs W' W.heap.size ⟨#[114, 101, 97, 100]⟩ name e ev → Below W.heap.size W W' → ErrIs W' w.heap.size ⟨#[114, 101, 97, 100]⟩ name e ev ∧ VDid PS G q v' w W') := fun v' W W' e ev h1 h2 h3 => ⟨h2.low h1.2.size, h1.below C h3⟩
  have HC : Hid (Calls Tryz.prog 134 #[.pointer (some ⟨q, 0, none⟩), .string name] w fun e w' => e = .returned (.tuple #[.string (v.read name).1.1, .int .i64 (v.read name).1.2]) ∧ VDid PS G q (v.read name).2 w w') := dRead_c C G q v name w h hw hn
  clear h hw hn
  go_enter Tryz.func30, Tryz.ntmps30
  go_wp2_with (first
    | (go_at_call 41; refine HDev.out.mono ?_; rintro e w0 ⟨rfl, hw0⟩; subst w0)
    | (go_at_call 134; refine HC.out.mono ?_; rintro e w1 ⟨rfl, hd1⟩)
    | (go_at_call 56; refine (HFa.out _ _).mono ?_; rintro e w2 ⟨ev, rfl, he, hb⟩))
  go_returns
  exact ⟨ev, rfl, HB.out _ _ _ _ _ hd1 he hb⟩
set_option maxHeartbeats 4000000 in
theorem sRename_c (C : PC PS) (G : Nat → Prop) (q : Nat) (v : Vs) (old to : ByteArray) (w : World) (h : PV PS G q v w) (hw : Wf v.st) (hn : v.cnt ≤ 4194304) :
    Calls Tryz.prog 35 #[.pointer (some ⟨q, 0, none⟩), .string old, .string to] w fun e w' => ∃ ev, e = .returned ev ∧ EDid PS G q (v.rename old to).2 w w' ⟨#[114, 101, 110, 97, 109, 101]⟩ old (v.rename old to).1 ev := by
  have HDev : Hid (Calls Tryz.prog 41 #[.pointer (some ⟨q, 0, none⟩)] w fun e w' => e = .returned (.iface 134 (.pointer (some ⟨q, 0, none⟩))) ∧ w' = w) := device_c G q v w h
  have HFa : Hid (∀ (e : Nat) w, Calls Tryz.prog 56 #[.string ⟨#[114, 101, 110, 97, 109, 101]⟩, .string old, .int .i64 e] w fun r w' => ∃ ev, r = .returned ev ∧ ErrIs w' w.heap.size ⟨#[114, 101, 110, 97, 109, 101]⟩ old e ev ∧ Below w.heap.size w w') := fun e w => failed_c _ _ e w
  have HB : Hid (∀ (v' : Vs) W W' (e : Nat) ev, VDid PS G q v' w W → ErrIs W' W.heap.size ⟨#[114, 101, 110, 97, 109, 101]⟩ old e ev → Below W.heap.size W W' → EDid PS G q v' w W' ⟨#[114, 101, 110, 97, 109, 101]⟩ old e ev) := fun v' W W' e ev h1 h2 h3 => EDid.of C h1 h2 h3
  have HC : Hid (Calls Tryz.prog 136 #[.pointer (some ⟨q, 0, none⟩), .string old, .string to] w fun e w' => e = .returned (.int .i64 (v.rename old to).1) ∧ VDid PS G q (v.rename old to).2 w w') := dRename_c C G q v old to w h hw hn
  clear h hw hn
  go_enter Tryz.func35, Tryz.ntmps35
  go_wp2_with (first
    | (go_at_call 41; refine HDev.out.mono ?_; rintro e w0 ⟨rfl, hw0⟩; subst w0)
    | (go_at_call 136; refine HC.out.mono ?_; rintro e w1 ⟨rfl, hd1⟩)
    | (go_at_call 56; refine (HFa.out _ _).mono ?_; rintro e w2 ⟨ev, rfl, he, hb⟩))
  go_returns
  exact ⟨ev, rfl, HB.out _ _ _ _ _ hd1 he hb⟩
theorem fRename_c (C : PC PS) (G : Nat → Prop) (q : Nat) (v : Vs) (old to : ByteArray) (w : World) (h : PV PS G q v w) (hw : Wf v.st) (hn : v.cnt ≤ 4194304) :
    Calls Tryz.prog 35 #[.pointer (some ⟨q, 0, none⟩), .string old, .string to] w fun e w' => ∃ ev, e = .returned ev ∧ ErrIs w' w.heap.size ⟨#[114, 101, 110, 97, 109, 101]⟩ old (v.rename old to).1 ev ∧ VDid PS G q (v.rename old to).2 w w' := by
  refine (sRename_c C G q v old to w h hw hn).mono ?_
  rintro e w' ⟨ev, rfl, hd⟩
  exact ⟨ev, rfl, hd.weak⟩
set_option maxHeartbeats 4000000 in
theorem fRemove_c (C : PC PS) (G : Nat → Prop) (q : Nat) (v : Vs) (name : ByteArray) (w : World) (h : PV PS G q v w) (hw : Wf v.st) (hn : v.cnt ≤ 4194304) :
    Calls Tryz.prog 36 #[.pointer (some ⟨q, 0, none⟩), .string name] w fun e w' => ∃ ev, e = .returned ev ∧ ErrIs w' w.heap.size ⟨#[114, 101, 109, 111, 118, 101]⟩ name (v.remove name).1 ev ∧ VDid PS G q (v.remove name).2 w w' := by
  have HDev : Hid (Calls Tryz.prog 41 #[.pointer (some ⟨q, 0, none⟩)] w fun e w' => e = .returned (.iface 134 (.pointer (some ⟨q, 0, none⟩))) ∧ w' = w) := device_c G q v w h
  have HFa : Hid (∀ (e : Nat) w, Calls Tryz.prog 56 #[.string ⟨#[114, 101, 109, 111, 118, 101]⟩, .string name, .int .i64 e] w fun r w' => ∃ ev, r = .returned ev ∧ ErrIs w' w.heap.size ⟨#[114, 101, 109, 111, 118, 101]⟩ name e ev ∧ Below w.heap.size w w') := fun e w => failed_c _ _ e w
  have HB : Hid (∀ (v' : Vs) W W' (e : Nat) ev, VDid PS G q v' w W → ErrIs W' W.heap.size ⟨#[114, 101, 109, 111, 118, 101]⟩ name e ev → Below W.heap.size W W' → ErrIs W' w.heap.size ⟨#[114, 101, 109, 111, 118, 101]⟩ name e ev ∧ VDid PS G q v' w W') := fun v' W W' e ev h1 h2 h3 => ⟨h2.low h1.2.size, h1.below C h3⟩
  have HC : Hid (Calls Tryz.prog 135 #[.pointer (some ⟨q, 0, none⟩), .string name] w fun e w' => e = .returned (.int .i64 (v.remove name).1) ∧ VDid PS G q (v.remove name).2 w w') := dRemove_c C G q v name w h hw hn
  clear h hw hn
  go_enter Tryz.func36, Tryz.ntmps36
  go_wp2_with (first
    | (go_at_call 41; refine HDev.out.mono ?_; rintro e w0 ⟨rfl, hw0⟩; subst w0)
    | (go_at_call 135; refine HC.out.mono ?_; rintro e w1 ⟨rfl, hd1⟩)
    | (go_at_call 56; refine (HFa.out _ _).mono ?_; rintro e w2 ⟨ev, rfl, he, hb⟩))
  go_returns
  exact ⟨ev, rfl, HB.out _ _ _ _ _ hd1 he hb⟩
set_option maxHeartbeats 4000000 in
theorem sSyncDir_c (C : PC PS) (G : Nat → Prop) (q : Nat) (v : Vs)  (w : World) (h : PV PS G q v w) (hw : Wf v.st) (hn : v.cnt ≤ 4194304) :
    Calls Tryz.prog 37 #[.pointer (some ⟨q, 0, none⟩)] w fun e w' => ∃ ev, e = .returned ev ∧ EDid PS G q v.syncDir.2 w w' ⟨#[115, 121, 110, 99, 100, 105, 114]⟩ ⟨#[]⟩ v.syncDir.1 ev := by
  have HDev : Hid (Calls Tryz.prog 41 #[.pointer (some ⟨q, 0, none⟩)] w fun e w' => e = .returned (.iface 134 (.pointer (some ⟨q, 0, none⟩))) ∧ w' = w) := device_c G q v w h
  have HFa : Hid (∀ (e : Nat) w, Calls Tryz.prog 56 #[.string ⟨#[115, 121, 110, 99, 100, 105, 114]⟩, .string ⟨#[]⟩, .int .i64 e] w fun r w' => ∃ ev, r = .returned ev ∧ ErrIs w' w.heap.size ⟨#[115, 121, 110, 99, 100, 105, 114]⟩ ⟨#[]⟩ e ev ∧ Below w.heap.size w w') := fun e w => failed_c _ _ e w
  have HB : Hid (∀ (v' : Vs) W W' (e : Nat) ev, VDid PS G q v' w W → ErrIs W' W.heap.size ⟨#[115, 121, 110, 99, 100, 105, 114]⟩ ⟨#[]⟩ e ev → Below W.heap.size W W' → EDid PS G q v' w W' ⟨#[115, 121, 110, 99, 100, 105, 114]⟩ ⟨#[]⟩ e ev) := fun v' W W' e ev h1 h2 h3 => EDid.of C h1 h2 h3
  have HC : Hid (Calls Tryz.prog 139 #[.pointer (some ⟨q, 0, none⟩)] w fun e w' => e = .returned (.int .i64 v.syncDir.1) ∧ VDid PS G q v.syncDir.2 w w') := dSyncDir_c C G q v  w h hw hn
  clear h hw hn
  go_enter Tryz.func37, Tryz.ntmps37
  go_wp2_with (first
    | (go_at_call 41; refine HDev.out.mono ?_; rintro e w0 ⟨rfl, hw0⟩; subst w0)
    | (go_at_call 139; refine HC.out.mono ?_; rintro e w1 ⟨rfl, hd1⟩)
    | (go_at_call 56; refine (HFa.out _ _).mono ?_; rintro e w2 ⟨ev, rfl, he, hb⟩))
  go_returns
  exact ⟨ev, rfl, HB.out _ _ _ _ _ hd1 he hb⟩
theorem fSyncDir_c (C : PC PS) (G : Nat → Prop) (q : Nat) (v : Vs)  (w : World) (h : PV PS G q v w) (hw : Wf v.st) (hn : v.cnt ≤ 4194304) :
    Calls Tryz.prog 37 #[.pointer (some ⟨q, 0, none⟩)] w fun e w' => ∃ ev, e = .returned ev ∧ ErrIs w' w.heap.size ⟨#[115, 121, 110, 99, 100, 105, 114]⟩ ⟨#[]⟩ v.syncDir.1 ev ∧ VDid PS G q v.syncDir.2 w w' := by
  refine (sSyncDir_c C G q v w h hw hn).mono ?_
  rintro e w' ⟨ev, rfl, hd⟩
  exact ⟨ev, rfl, hd.weak⟩
set_option maxHeartbeats 4000000 in
theorem fList_c (C : PC PS) (G : Nat → Prop) (q : Nat) (v : Vs) (w : World) (h : PV PS G q v w) (hw : Wf v.st) (hn : v.cnt ≤ 4194304) :
    Calls Tryz.prog 33 #[.pointer (some ⟨q, 0, none⟩)] w fun e w' => ∃ x ev, e = .returned (.tuple #[x, ev]) ∧ w'.ownsRow w.heap.size 9 1 x v.list.1.1.length (strV v.list.1.1) ∧ ErrIs w' w.heap.size ⟨#[108, 105, 115, 116]⟩ ⟨#[]⟩ v.list.1.2 ev ∧ VDid PS G q v.list.2 w w' := by
  have HDev : Hid (Calls Tryz.prog 41 #[.pointer (some ⟨q, 0, none⟩)] w fun e w' => e = .returned (.iface 134 (.pointer (some ⟨q, 0, none⟩))) ∧ w' = w) := device_c G q v w h
  have HFa : Hid (∀ (e : Nat) w, Calls Tryz.prog 56 #[.string ⟨#[108, 105, 115, 116]⟩, .string ⟨#[]⟩, .int .i64 e] w fun r w' => ∃ ev, r = .returned ev ∧ ErrIs w' w.heap.size ⟨#[108, 105, 115, 116]⟩ ⟨#[]⟩ e ev ∧ Below w.heap.size w w') := fun e w => failed_c _ _ e w
  have HB : Hid (∀ (v' : Vs) W W' (e : Nat) ev, VDid PS G q v' w W → ErrIs W' W.heap.size ⟨#[108, 105, 115, 116]⟩ ⟨#[]⟩ e ev → Below W.heap.size W W' → ErrIs W' w.heap.size ⟨#[108, 105, 115, 116]⟩ ⟨#[]⟩ e ev ∧ VDid PS G q v' w W') := fun v' W W' e ev h1 h2 h3 => ⟨h2.low h1.2.size, h1.below C h3⟩
  have HC : Hid (Calls Tryz.prog 133 #[.pointer (some ⟨q, 0, none⟩)] w fun e w' => ∃ x, e = .returned (.tuple #[x, .int .i64 v.list.1.2]) ∧ w'.ownsRow w.heap.size 9 1 x v.list.1.1.length (strV v.list.1.1) ∧ VDid PS G q v.list.2 w w') := (dList_c C G q v w h hw hn).mono (by rintro e w' ⟨⟨x, h1, h2⟩, h3⟩; exact ⟨x, h1, h2, h3⟩)
  have HOB : Hid (∀ (W W' : World) (x : Value) (n : Nat) (l : List Value), W.ownsRow w.heap.size 9 1 x n l → Below W.heap.size W W' → W'.ownsRow w.heap.size 9 1 x n l) := fun W W' x n l h1 h2 => own_keep h1 fun k hk => by
    obtain ⟨cur, hh⟩ := own_typed h1 hk
    exact h2.block k (Array.getElem?_eq_some_iff.1 hh).1
  clear h hw hn
  go_enter Tryz.func33, Tryz.ntmps33
  go_wp2_with (first
    | (go_at_call 41; refine HDev.out.mono ?_; rintro e w0 ⟨rfl, hw0⟩; subst w0)
    | (go_at_call 133; refine HC.out.mono ?_; rintro e w1 ⟨x, rfl, hx, hd1⟩)
    | (go_at_call 56; refine (HFa.out _ _).mono ?_; rintro e w2 ⟨ev, rfl, he, hb⟩))
  go_returns
  exact ⟨x, ev, rfl, HOB.out _ _ _ _ _ hx hb, HB.out _ _ _ _ _ hd1 he hb⟩
end Go.Proofs.YtjbphheojfclcaaGreat
