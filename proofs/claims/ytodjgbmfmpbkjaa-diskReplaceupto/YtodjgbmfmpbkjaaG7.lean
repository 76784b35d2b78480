-- A volume set up with one durable file.
import Derived.Test.YtodjgbmfmpbkjaaG6
namespace Go.Proofs.Ytodjgbmfmpbkjaa
open Go.RowKit
set_option linter.unusedVariables false
variable {PS : (Nat → Prop) → Nat → St → World → Prop}
def St.set1 (c : Nat) (name : ByteArray) : St := ⟨c, [⟨1, 0, 0, 0, ⟨#[]⟩, 0⟩], [[], [(name, 1)]]⟩
def St.set2 (c : Nat) (name old : ByteArray) : St := ⟨c, [⟨1, 0, 0, 0, old, 0⟩], [[], [(name, 1)]]⟩
def St.set3 (c : Nat) (name old : ByteArray) : St := ⟨c, [⟨1, 0, 0, 0, old, old.size⟩], [[], [(name, 1)]]⟩
def St.set4 (c : Nat) (name old : ByteArray) : St := ⟨c, [⟨1, 0, 0, 0, old, old.size⟩], [[(name, 1)]]⟩
theorem set_1 (c : Nat) (name : ByteArray) (h : okName name = true) : (St.new c).create name 1 0 0 0 = ((1, 0), St.set1 c name) := by
  unfold St.create
  rw [if_neg (by rw [h]; decide), if_neg (by
    have : (St.new c).now = [] := rfl
    rw [this]; simp)]
  rfl
theorem empty_app (a : ByteArray) : (⟨#[]⟩ : ByteArray) ++ a = a := ByteArray.empty_append
theorem set_2 (c : Nat) (name old : ByteArray) (h : old.size ≤ c) : (St.set1 c name).append 1 old = (0, St.set2 c name old) := by
  have ha : (St.set1 c name).at_ 1 = some ⟨1, 0, 0, 0, ⟨#[]⟩, 0⟩ := rfl
  have hu : (St.set1 c name).used = 0 := rfl
  unfold St.append
  rw [ha]
  simp only
  rw [if_neg (by rw [hu]; show ¬ (_ ∧ c < _); omega), empty_app]
  rfl
theorem set_3 (c : Nat) (name old : ByteArray) : (St.set2 c name old).sync 1 = (0, St.set3 c name old) := rfl
theorem set_4 (c : Nat) (name old : ByteArray) : (St.set3 c name old).syncDir = St.set4 c name old := rfl
theorem set_wf (c : Nat) (name old : ByteArray) (hc : c ≤ 1073741824) (hok : okName name = true) (h : old.size ≤ c) : Wf (St.set1 c name) ∧ Wf (St.set2 c name old) ∧ Wf (St.set3 c name old) ∧ Wf (St.set4 c name old) := by
  have w1 := (create_fine (new_wf c hc) name 1 0 0 0 (by simp [St.new]) (by simp [St.new])).wf
  rw [set_1 c name hok] at w1
  have w2 := (append_fine w1 1 old).wf
  rw [set_2 c name old h] at w2
  have w3 := (sync_fine w2 1).wf
  rw [set_3] at w3
  have w4 := (syncDir_fine w3).wf
  exact ⟨w1, w2, w3, w4⟩
theorem set_DW (c : Nat) (name old : ByteArray) (hok : okName name = true) : DW (St.set4 c name old) := by
  intro d hd
  simp [St.set4] at hd
  subst hd
  have := step_DW (new_DW 0) (new_wf 0 (by omega)) ⟨1, 0, 0, name, name, 1, 0, 0, 0, .slice none 0 0, []⟩
  have e : (St.new 0).step ⟨1, 0, 0, name, name, 1, 0, 0, 0, .slice none 0 0, []⟩ = ((St.new 0).create name 1 0 0 0).2 := rfl
  rw [e, set_1 0 name hok] at this
  exact this _ (by simp [St.set1])
set_option maxHeartbeats 4000000 in
theorem set_c (C : PC PS) (c : Nat) (name old : ByteArray) (w : World) (hc : c ≤ 1073741824) (hok : okName name = true) (h : old.size ≤ c) :
    Calls Try.prog 21 #[.string name, .string old, .int .i64 c] w fun e w' => ∃ p F, e = .returned (.pointer (some ⟨p, 0, none⟩)) ∧ One PS w.heap.size F p (St.set4 c name old) w' ∧ Below w.heap.size w w' := by
  obtain ⟨w1, w2, w3, w4⟩ := set_wf c name old hc hok h
  have HD : Hid (Calls Try.prog 9 #[.int .i64 c] w fun e w' => ∃ p, e = .returned (.pointer (some ⟨p, 0, none⟩)) ∧ PS (fun k => w.heap.size ≤ k ∧ k < w'.heap.size) p (St.new c) w' ∧ Below w.heap.size w w') := C.new_c c w hc
  have HC : Hid (∀ F p wx, One PS w.heap.size F p (St.new c) wx → w.heap.size ≤ wx.heap.size → Calls Try.prog 22 #[.pointer (some ⟨p, 0, none⟩), .string name, .agg #[.int .i64 1, .int .i64 0, .int .i64 0, .int .i64 0]] wx fun e w' =>
      e = .returned (.tuple #[.int .i64 1, .int .i64 0]) ∧ One PS w.heap.size (ext F wx w') p (St.set1 c name) w' ∧ Below w.heap.size wx w') := fun F p wx t hB => (C.create F p (St.new c) name 1 0 0 0 wx t.d (new_wf c hc)).mono (by
    rintro e w' ⟨rfl, hd⟩
    rw [set_1 c name hok] at hd ⊢
    exact ⟨rfl, t.did hB hd⟩)
  have HA : Hid (∀ F p wx, One PS w.heap.size F p (St.set1 c name) wx → w.heap.size ≤ wx.heap.size → Calls Try.prog 13 #[.pointer (some ⟨p, 0, none⟩), .int .i64 1, .string old] wx fun e w' =>
      e = .returned (.int .i64 0) ∧ One PS w.heap.size (ext F wx w') p (St.set2 c name old) w' ∧ Below w.heap.size wx w') := fun F p wx t hB => (C.append F p (St.set1 c name) 1 old wx t.d w1 (by omega)).mono (by
    rintro e w' ⟨rfl, hd⟩
    rw [set_2 c name old h] at hd ⊢
    exact ⟨rfl, t.did hB hd⟩)
  have HS : Hid (∀ F p wx, One PS w.heap.size F p (St.set2 c name old) wx → w.heap.size ≤ wx.heap.size → Calls Try.prog 23 #[.pointer (some ⟨p, 0, none⟩), .int .i64 1] wx fun e w' =>
      e = .returned (.int .i64 0) ∧ One PS w.heap.size (ext F wx w') p (St.set3 c name old) w' ∧ Below w.heap.size wx w') := fun F p wx t hB => (C.sync F p (St.set2 c name old) 1 wx t.d w2).mono (by
    rintro e w' ⟨rfl, hd⟩
    rw [set_3] at hd ⊢
    exact ⟨rfl, t.did hB hd⟩)
  have HY : Hid (∀ F p wx, One PS w.heap.size F p (St.set3 c name old) wx → w.heap.size ≤ wx.heap.size → Calls Try.prog 30 #[.pointer (some ⟨p, 0, none⟩)] wx fun e w' =>
      e = .returned (.tuple #[]) ∧ One PS w.heap.size (ext F wx w') p (St.set4 c name old) w' ∧ Below w.heap.size wx w') := fun F p wx t hB => (C.syncDir F p (St.set3 c name old) wx t.d w3).mono (by
    rintro e w' ⟨rfl, hd⟩
    rw [set_4] at hd
    exact ⟨rfl, t.did hB hd⟩)
  have HN : Hid (∀ (n : Int) w, Calls Try.prog 14 #[.int .i64 n] w fun e w' => e = .returned (.int .i64 n) ∧ w' = w) := fun n w => num_c n w
  clear h hc hok w1 w2 w3 w4
  go_enter Try.func21, Try.ntmps21
  go_wp2_with (first
    | (go_at_call 9; refine HD.out.mono ?_; rintro e x1 ⟨p, rfl, hps, hb1⟩; have hs1 := hb1.size)
    | (go_at_call 22; refine (HC.out _ p _ ⟨hps, fun k hk => hk⟩ hs1).mono ?_; rintro e x2 ⟨rfl, t2, hb2⟩; have hb2' := hb1.trans hb2; have hs2 := hb2'.size)
    | (go_at_call 13; refine (HA.out _ p _ t2 hs2).mono ?_; rintro e x3 ⟨rfl, t3, hb3⟩; have hb3' := hb2'.trans hb3; have hs3 := hb3'.size)
    | (go_at_call 23; refine (HS.out _ p _ t3 hs3).mono ?_; rintro e x4 ⟨rfl, t4, hb4⟩; have hb4' := hb3'.trans hb4; have hs4 := hb4'.size)
    | (go_at_call 30; refine (HY.out _ p _ t4 hs4).mono ?_; rintro e x5 ⟨rfl, t5, hb5⟩; have hb5' := hb4'.trans hb5)
    | (go_at_call 14; refine (HN.out _ _).mono ?_; rintro e w6 ⟨rfl, hw6⟩; subst w6))
  go_ret
  exact ⟨p, _, rfl, t5, hb5'⟩
end Go.Proofs.Ytodjgbmfmpbkjaa
