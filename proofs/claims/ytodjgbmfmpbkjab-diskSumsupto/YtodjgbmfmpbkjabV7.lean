-- The program's helpers: a body given up.
import Derived.Test.YtodjgbmfmpbkjabV6
namespace Go.Proofs.Ytodjgbmfmpbkjab
open Go.RowKit
set_option linter.unusedVariables false
theorem zeroP (w : World) : (zeroValue 68).run Try.prog w = .ok (.pointer none) w := Try.zeroValue68 w
theorem bv_look (c : Bool) {w : World} {b : Nat} {l : List (Nat × Nat)} (h : MapAt (.int .i64) w b (bv l)) {n x : Nat} (hx : (n, x) ∈ l) :
    (Instr.lookup 63 (.map (some b)) (.int .i64 n) c).run Try.prog w = .ok (if c then .tuple #[.pointer (some ⟨x, 0, none⟩), .bool true] else .pointer (some ⟨x, 0, none⟩)) w :=
  h.look c Try.underlying63 Try.underlying3 (key_i n) (bv_mem hx)
theorem bv_look_no (c : Bool) {w : World} {b : Nat} {l : List (Nat × Nat)} (h : MapAt (.int .i64) w b (bv l)) {n : Int} (hx : ∀ e ∈ l, (e.1 : Int) ≠ n) :
    (Instr.lookup 63 (.map (some b)) (.int .i64 n) c).run Try.prog w = .ok (if c then .tuple #[.pointer none, .bool false] else .pointer none) w :=
  h.look_no c Try.underlying63 Try.underlying3 (key_i n) (bv_no hx) (zeroP w)
theorem sv_look (c : Bool) {w : World} {b : Nat} {d : Dr} (h : MapAt .string w b (dv d)) (hp : ∀ e ∈ d, 1 ≤ e.2) (n : ByteArray) :
    (Instr.lookup 62 (.map (some b)) (.string n) c).run Try.prog w = .ok (if c then .tuple #[.int .i64 (leads d n), .bool (decide (leads d n ≠ 0))] else .int .i64 (leads d n)) w :=
  dv_look c h hp Try.underlying62 Try.underlying9 (zero3 w) n
set_option maxHeartbeats 4000000 in
theorem giveUp_no (name : ByteArray) (F : Nat → Prop) (p cap made : Nat) (now d0 : Dr) (cs : List Chg) (T K : List (Nat × Nat)) (bs : List Bd) (w : World) (bd bf bt bk : Nat) (vp : Value) (h : RN F p cap made now d0 cs T K bs w bd bf bt bk vp) (hp1 : ∀ e ∈ now, 1 ≤ e.2) (h0 : leads now name = 0) :
    Calls Try.prog 26 #[.pointer (some ⟨p, 0, none⟩), .string name] w fun e w' => e = .returned (.tuple #[]) ∧ w' = w := by
  obtain ⟨c0, c1, c2, c3, c4, c5, c6⟩ := h.cells
  have hl := sv_look true h.m1 hp1 name
  rw [h0] at hl
  simp only [if_true] at hl
  have b0 : decide ((0 : Nat) ≠ 0) = false := by decide
  rw [b0] at hl
  clear h hp1 h0 b0 c0 c1 c3 c4 c5 c6
  go_enter Try.func26, Try.ntmps26
  go_wp2_with (at_lookup; refine wp_look _ rfl _ _ 62 true rfl _ _ _ rfl rfl hl ?_)
  refine bodyPost_ret (results_none rfl _ _ _) rfl ?_
  exact ⟨rfl, rfl⟩
set_option maxHeartbeats 4000000 in
theorem giveUp_c (name : ByteArray) (n x : Nat) (T0 : List (Nat × Nat)) (F : Nat → Prop) (p cap made : Nat) (now d0 : Dr) (cs : List Chg) (T K : List (Nat × Nat)) (bs : List Bd) (w : World) (bd bf bt bk : Nat) (vp : Value) (h : RN F p cap made now d0 cs T K bs w bd bf bt bk vp) (hp1 : ∀ e ∈ now, 1 ≤ e.2) (hn : leads now name = n) (hn0 : n ≠ 0) (hT : T.Perm ((n, x) :: T0)) (hK : ∀ e ∈ K, e.1 ≠ n) :
    Calls Try.prog 26 #[.pointer (some ⟨p, 0, none⟩), .string name] w fun e w' => e = .returned (.tuple #[]) ∧ RN F p cap made now d0 cs T0 ((n, x) :: K) bs w' bd bf bt bk vp ∧ Kp F w w' := by
  obtain ⟨c0, c1, c2, c3, c4, c5, c6⟩ := h.cells
  have hl := sv_look true h.m1 hp1 name
  rw [hn] at hl
  simp only [if_true] at hl
  rw [decide_eq_true hn0] at hl
  have hx : (n, x) ∈ T := hT.mem_iff.2 (by simp)
  have hl2 := bv_look false (w := w.drew) h.m3 hx
  obtain ⟨w2, hr2, h2, ht2⟩ := MapAt.store_new (P := Try.prog) (w := w.drew) (t := 63) (k := 3) (e := 68) h.m4 Try.underlying63 Try.underlying3 (key_i n) (bv_no fun e he => by have := hK e he; omega) (.pointer (some ⟨x, 0, none⟩))
  have m3' : MapAt (.int .i64) w2 bt (bv T) := h.m3.keep (ht2.other h.n6)
  obtain ⟨w3, hr3, h3, ht3⟩ := m3'.drop (P := Try.prog) (t := 63) (k := 3) (e := 68) Try.underlying63 Try.underlying3 (key_i n) (v := .pointer (some ⟨x, 0, none⟩)) (l0 := bv T0) (hT.map _) 0
  have e4 : w2.cell? ⟨p, 4, none⟩ = some (.map (some bt)) := by
    rw [Lib.cell_of_heap ((ht2.other (h.apart h.m4).1).trans h.blk)]; rfl
  have HR : Hid (RN F p cap made now d0 cs T0 ((n, x) :: K) bs w3 bd bf bt bk vp ∧ Kp F w w3) := by
    have R2 : RN F p cap made now d0 cs T ((n, x) :: K) bs w2 bd bf bt bk vp := h.turn h.m4 (fun k _ hk => ht2.other hk) (h.m1.keep (ht2.other h.n3)) (h.m2.keep (ht2.other h.n5)) m3' h2 (fun e he => by
      simp only [List.mem_append, List.mem_cons] at he ⊢
      rcases he with he | rfl | he
      · exact .inl he
      · exact .inl hx
      · exact .inr he)
    have R3 : RN F p cap made now d0 cs T0 ((n, x) :: K) bs w3 bd bf bt bk vp := R2.turn m3' (fun k _ hk => ht3.other hk) (R2.m1.keep (ht3.other h.n2)) (R2.m2.keep (ht3.other h.n4)) h3 (R2.m4.keep (ht3.other h.n6.symm)) (fun e he => by
      simp only [List.mem_append, List.mem_cons] at he ⊢
      rcases he with he | he
      · exact .inl (hT.mem_iff.2 (List.mem_cons_of_mem _ he))
      · exact .inr he)
    have k2 : Kp F w w2 := ⟨ht2.os.1, ht2.os.2.1, ht2.os.2.2, Nat.le_of_eq ht2.size.symm, fun k _ hk => ht2.other (fun e => hk (e ▸ h.f4))⟩
    exact ⟨R3, k2.trans (ht3.kp h.f3)⟩
  clear h hp1 hn hn0 hT hK c0 c1 c3 c6 h2 ht2 m3' h3 ht3 hx
  go_enter Try.func26, Try.ntmps26
  go_wp2_with (at_lookup; refine wp_look _ rfl _ _ 62 true rfl _ _ _ rfl rfl hl ?_)
  go_region
  all_goals
    go_wp2_with (at_delete; refine wp_delete _ rfl _ _ 63 3 rfl _ _ rfl rfl w3 hr3 ?_)
    go_end0
    exact ⟨rfl, HR.out⟩
end Go.Proofs.Ytodjgbmfmpbkjab
