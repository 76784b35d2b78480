-- A volume that holds one file alone.
import Derived.Test.YtodjgbmfmpbkjaaG4
namespace Go.Proofs.Ytodjgbmfmpbkjaa
open Go.RowKit
set_option linter.unusedVariables false
variable {PS : (Nat → Prop) → Nat → St → World → Prop}
set_option maxHeartbeats 4000000 in
theorem only_c (C : PC PS) (B : Nat) (F : Nat → Prop) (p : Nat) (st : St) (f : Fl) (name data : ByteArray) (w : World) (h : One PS B F p st w) (hw : Wf st) (hd : DW st) (hB : B ≤ w.heap.size) (hf : st.files = [f]) (hn : f.name = name) (hdt : f.bd.data = data) :
    Calls Try.prog 26 #[.pointer (some ⟨p, 0, none⟩), .string name, .string data] w fun e w' => e = .returned (.bool true) ∧ Below B w w' := by
  obtain ⟨nm, num, ⟨date, uid, gid, mode, dt, safe⟩⟩ := f
  simp only at hn hdt
  subst hn hdt
  have HF : Hid (Calls Try.prog 29 #[.pointer (some ⟨p, 0, none⟩)] w fun e w' => (∃ g cap, e = .returned (.tuple #[.slice (some ⟨g, 0, none⟩) 1 cap, .bool true]) ∧ w'.cell? ⟨g, 4, none⟩ = some (.string nm) ∧ w'.cell? ⟨g, 7, none⟩ = some (.string dt)) ∧ Below B w w') := (files_c C B F p st w h hw hd hB).mono (by
    rintro e w' ⟨⟨v, rfl, ho⟩, _, hb⟩
    rw [hf] at ho
    rcases RowF.of_own ho with ⟨h0, _⟩ | ⟨b, cap, rfl, hc⟩
    · cases h0
    · exact ⟨⟨b, cap, rfl, by have := hc 0 _ rfl 4 _ rfl; simpa using this, by have := hc 0 _ rfl 7 _ rfl; simpa using this⟩, hb⟩)
  have be1 : (nm.toList == nm.toList) = true := by simp
  have be2 : (dt.toList == dt.toList) = true := by simp
  clear h hw hd hf
  go_enter Try.func26, Try.ntmps26
  go_wp2_with (go_at_call 29; refine HF.out.mono ?_; rintro e w1 ⟨⟨g, cap, rfl, c4, c7⟩, hb1⟩)
  go_ret
  exact ⟨rfl, hb1⟩
end Go.Proofs.Ytodjgbmfmpbkjaa
