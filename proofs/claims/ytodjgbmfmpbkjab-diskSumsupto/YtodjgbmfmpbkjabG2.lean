
-- A volume that is started; all that a volume tells of its files.
import Derived.Test.YtodjgbmfmpbkjabG1
namespace Go.Proofs.Ytodjgbmfmpbkjab
open Go.RowKit
set_option linter.unusedVariables false
variable {PS : (Nat → Prop) → Nat → St → World → Prop}
def fName : ByteArray := ⟨#[102]⟩
def St.start (c : Nat) : St := ((St.new c).create fName 0 0 0 0).2
theorem start_first (c : Nat) : ((St.new c).create fName 0 0 0 0).1 = (1, 0) := by
  unfold St.create
  rw [if_neg (by decide), if_neg (by
    have : (St.new c).now = [] := rfl
    rw [this]; simp)]
  rfl
theorem start_fine (c : Nat) (h : c ≤ 1073741824) : Fine (St.new c) (St.start c) := create_fine (new_wf c h) _ _ _ _ _ (by simp [St.new]) (by simp [St.new])
theorem started_no (C : PC PS) (c : Int) (w : World) (h : c < 0 ∨ 1073741824 < c) : Calls Try.prog 9 #[.int .i64 c] w fun e w' => e = .returned (.tuple #[.pointer none, .bool true]) ∧ Below w.heap.size w w' := by
  have HD : Hid (∀ w, Calls Try.prog 23 #[.int .i64 c] w fun e w' => e = .returned (.pointer none) ∧ Below w.heap.size w w') := fun w => C.new_no c w h
  have hc : (decide (c < 0) = true) ∨ (decide (c < 0) = false ∧ decide (1073741824 < c) = true) := by
    by_cases h0 : c < 0
    · left; simp [h0]
    · right; refine ⟨by simp [h0], ?_⟩; simp; omega
  clear h
  rcases hc with b1 | ⟨b1, b2⟩
  all_goals
    go_enter Try.func9, Try.ntmps9
    go_wp2_with (go_at_call 23; refine (HD.out _).mono ?_; rintro e w1 ⟨rfl, hb1⟩)
    go_ret2
    exact ⟨rfl, hb1⟩
theorem started_c (C : PC PS) (c : Nat) (w : World) (h : c ≤ 1073741824) : Calls Try.prog 9 #[.int .i64 c] w fun e w' => ∃ F p, e = .returned (.tuple #[.pointer (some ⟨p, 0, none⟩), .bool true]) ∧ One PS w.heap.size F p (St.start c) w' ∧ Below w.heap.size w w' := by
  have HD : Hid (Calls Try.prog 23 #[.int .i64 c] w fun e w' => ∃ p, e = .returned (.pointer (some ⟨p, 0, none⟩)) ∧ PS (fun k => w.heap.size ≤ k ∧ k < w'.heap.size) p (St.new c) w' ∧ Below w.heap.size w w') := C.new_c c w h
  have HC : Hid (∀ F p wx, One PS w.heap.size F p (St.new c) wx → w.heap.size ≤ wx.heap.size → Calls Try.prog 10 #[.pointer (some ⟨p, 0, none⟩), .string ⟨#[102]⟩, .agg #[.int .i64 0, .int .i64 0, .int .i64 0, .int .i64 0]] wx fun e w' =>
      e = .returned (.tuple #[.int .i64 1, .int .i64 0]) ∧ One PS w.heap.size (ext F wx w') p (St.start c) w' ∧ Below w.heap.size wx w') := fun F p wx t hB => (C.create F p (St.new c) fName 0 0 0 0 wx t.d (new_wf c h)).mono (by
    rintro e w' ⟨rfl, hd⟩
    rw [start_first]
    exact ⟨rfl, t.did hB hd⟩)
  have HN : Hid (∀ (n : Int) w, Calls Try.prog 11 #[.int .i64 n] w fun e w' => e = .returned (.int .i64 n) ∧ w' = w) := fun n w => num_c n w
  have b1 : decide ((c : Int) < 0) = false := by simp
  have b2 : decide (1073741824 < (c : Int)) = false := by simp; omega
  clear h
  go_enter Try.func9, Try.ntmps9
  go_wp2_with (first
    | (go_at_call 23; refine HD.out.mono ?_; rintro e w1 ⟨p, rfl, hps, hb1⟩; have hs1 := hb1.size)
    | (go_at_call 10; refine (HC.out _ p _ ⟨hps, fun k hk => hk⟩ hs1).mono ?_; rintro e w2 ⟨rfl, t2, hb2⟩)
    | (go_at_call 11; refine (HN.out _ _).mono ?_; rintro e w3 ⟨rfl, hw3⟩; subst w3))
  go_ret2
  exact ⟨_, p, rfl, t2, hb1.trans hb2⟩
end Go.Proofs.Ytodjgbmfmpbkjab
