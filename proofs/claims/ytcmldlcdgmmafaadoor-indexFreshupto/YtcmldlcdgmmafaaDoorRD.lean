
-- The document's Decode.
import Derived.Test.YtcmldlcdgmmafaaDoorPD
namespace Go.Proofs.YtcmldlcdgmmafaaDoor
open Go.ChangeShapes Go.WideShapes Go.ChangeAt Go.RowKit
set_option linter.unusedVariables false
set_option maxRecDepth 100000
theorem rdec_1 (A : Option (List En)) (s : ByteArray) (w : World) (HR : Hid (∀ w, Calls Tryd.prog 23 #[.string s, .int .i64 4] w fun e w' => ∃ a n c E, e = .returned (.tuple #[.slice a n c, .int .i64 E]) ∧ ASays A w e w')) :
    Calls Tryd.prog 11 #[.int .i64 1, .string s] w fun e w' => ASays A w e w' := by
  go_enter Tryd.func11, Tryd.ntmps11
  go_wp2_with (go_at_call 23; refine (HR.out _).mono ?_; rintro e w3 ⟨a, n, c, E, rfl, hA⟩)
  go_ret2
  exact hA
theorem rdec_2 (A : Option (List En)) (s : ByteArray) (w : World) (HR : Hid (∀ w, Calls Tryd.prog 23 #[.string s, .int .i64 8] w fun e w' => ∃ a n c E, e = .returned (.tuple #[.slice a n c, .int .i64 E]) ∧ ASays A w e w')) :
    Calls Tryd.prog 11 #[.int .i64 2, .string s] w fun e w' => ASays A w e w' := by
  go_enter Tryd.func11, Tryd.ntmps11
  go_wp2_with (go_at_call 23; refine (HR.out _).mono ?_; rintro e w3 ⟨a, n, c, E, rfl, hA⟩)
  go_ret2
  exact hA
theorem rdec_3 (A : Option (List En)) (s : ByteArray) (w : World) (HR : Hid (∀ w, Calls Tryd.prog 24 #[.string s] w fun e w' => ∃ a n c E, e = .returned (.tuple #[.slice a n c, .int .i64 E]) ∧ ASays A w e w')) :
    Calls Tryd.prog 11 #[.int .i64 3, .string s] w fun e w' => ASays A w e w' := by
  go_enter Tryd.func11, Tryd.ntmps11
  go_wp2_with (go_at_call 24; refine (HR.out _).mono ?_; rintro e w3 ⟨a, n, c, E, rfl, hA⟩)
  go_ret2
  exact hA
theorem rdec_no (f : Int) (s : ByteArray) (w : World) (hk : ¬ known f) :
    Calls Tryd.prog 11 #[.int .i64 f, .string s] w fun e w' => DecSays 101 [] w e w' := by
  have h1 : (f == 1) = false := by simp; exact fun q => hk (.inl q)
  have h2 : (f == 2) = false := by simp; exact fun q => hk (.inr (.inl q))
  have h3 : (f == 3) = false := by simp; exact fun q => hk (.inr (.inr q))
  have g1 : ¬ f = 1 := fun q => hk (.inl q)
  have g2 : ¬ f = 2 := fun q => hk (.inr (.inl q))
  have g3 : ¬ f = 3 := fun q => hk (.inr (.inr q))
  clear hk
  go_enter Tryd.func11, Tryd.ntmps11
  go_wp2
  go_ret2
  exact ⟨_, _, _, rfl, own_nilE _ _ _ _, Below.refl _ _⟩
theorem ASays.form {A : Option (List En)} {w w' : World} {e : Ending} (h : ASays A w e w') : ∃ a n c E, e = .returned (.tuple #[.slice a n c, .int .i64 E]) ∧ ASays A w e w' := by
  obtain ⟨a, n, c, h1, h2⟩ := id h
  exact ⟨a, n, c, _, h1, h⟩
theorem rdec_c (f : Int) (s : ByteArray) (w : World) (hm : s.size ≤ 67108864) :
    Calls Tryd.prog 11 #[.int .i64 f, .string s] w fun e w' => DSays f s.data.toList w e w' := by
  by_cases hk : known f
  · rcases hk with rfl | rfl | rfl
    · exact (rdec_1 _ s w (fun w => (rbig4_c s w hm).mono fun e w' h => h.form)).mono fun e w' h => DSays.ofA (by unfold known; decide) (decA_1 _) h
    · exact (rdec_2 _ s w (fun w => (rbig8_c s w hm).mono fun e w' h => h.form)).mono fun e w' h => DSays.ofA (by unfold known; decide) (decA_2 _) h
    · exact (rdec_3 _ s w (fun w => (rbsd_c s w hm).mono fun e w' h => h.form)).mono fun e w' h => DSays.ofA (by unfold known; decide) (decA_3 _) h
  · exact (rdec_no f s w hk).mono fun e w' h => DSays.no hk h
end Go.Proofs.YtcmldlcdgmmafaaDoor
