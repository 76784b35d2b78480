
-- names.Valid, KindOf: contracts.
import Derived.Test.YtmlnnbinbbmmhaaDoorB1
import Derived.Test.YtmlnnbinbbmmhaaDoorC0
import Derived.Test.YtmlnnbinbbmmhaaDoorShelf
import Derived.BigQuiet
import Derived.Deep.QuietTactic
namespace Go.Proofs.YtmlnnbinbbmmhaaDoor
open Go.ChangeShapes Go.WideShapes Go.ChangeAt Go.RowKit
set_option linter.unusedVariables false
set_option maxRecDepth 100000

theorem indexByte_neg (l : List UInt8) (c : UInt8) : Lib.indexByte l c < 0 ↔ ¬ c ∈ l := by
  induction l with
  | nil => simp [Lib.indexByte]
  | cons a r ih =>
    have hg := Lib.indexByte_ge r c
    unfold Lib.indexByte
    by_cases e : a = c
    · subst e; simp
    · have e' : ¬ c = a := fun h => e h.symm
      have eb : (a == c) = false := by simpa using e
      rw [eb, List.mem_cons]
      simp only [Bool.false_eq_true, if_false, e', false_or]
      by_cases h1 : (Lib.indexByte r c == -1) = true
      · rw [if_pos h1]
        have : Lib.indexByte r c = -1 := by simpa using h1
        rw [← ih]; omega
      · rw [if_neg h1]
        have : ¬ Lib.indexByte r c = -1 := by simpa using h1
        rw [← ih]; omega
theorem pvalid_c (s : ByteArray) (w : World) :
    Calls Tryd.prog 25 #[.string s] w fun e w' => e = .returned (.bool (validL s.data.toList)) ∧ w' = w := by
  have H : Hid (∀ (c : Int) w, Calls Tryd.prog 47 #[.string s, .int .u8 c] w fun e w' => e = .returned (.int .i64 (Lib.indexByte s.data.toList (UInt8.ofNat c.toNat))) ∧ w' = w) := fun c w => Tryd.strings_IndexByte s c w
  by_cases h0 : s.data.toList = []
  · have e0 : s = ByteArray.empty := by rw [← strL_of s, h0]; rfl
    subst e0
    go_enter Tryd.func25, Tryd.ntmps25
    go_wp2
    go_ret
    exact ⟨rfl, rfl⟩
  · have hn : (s.toList == []) = false := by rw [Lib.toList_data]; simpa using h0
    have hn2 : (!(s.toList == [])) = true := by rw [hn]; rfl
    have i1 := indexByte_neg s.data.toList 47
    have i0 := indexByte_neg s.data.toList 0
    by_cases h1 : (47 : UInt8) ∈ s.data.toList
    · have hv : validL s.data.toList = false := by
        cases e : validL s.data.toList
        · rfl
        · exact absurd h1 ((validL_iff _).1 e).2.1
      rw [hv]
      have h2 : ¬ Lib.indexByte s.data.toList 47 < 0 := fun h => i1.1 h h1
      clear i1 i0
      go_enter Tryd.func25, Tryd.ntmps25
      go_wp2_with (go_at_call 47; refine (H.out _ _).mono ?_; rintro e w' ⟨rfl, rfl⟩)
      go_ret
      exact ⟨rfl, rfl⟩
    · have h2 : Lib.indexByte s.data.toList 47 < 0 := i1.2 h1
      by_cases h3 : (0 : UInt8) ∈ s.data.toList
      · have hv : validL s.data.toList = false := by
          cases e : validL s.data.toList
          · rfl
          · exact absurd h3 ((validL_iff _).1 e).2.2
        rw [hv]
        have h4 : ¬ Lib.indexByte s.data.toList 0 < 0 := fun h => i0.1 h h3
        clear i1 i0
        go_enter Tryd.func25, Tryd.ntmps25
        go_wp2_with (go_at_call 47; refine (H.out _ _).mono ?_; rintro e w' ⟨rfl, rfl⟩)
        go_ret
        exact ⟨by rw [decide_eq_false (show ¬ Lib.indexByte s.data.toList 0 < 0 by omega)]; rfl, rfl⟩
      · have hv : validL s.data.toList = true := (validL_iff _).2 ⟨h0, h1, h3⟩
        rw [hv]
        have h4 : Lib.indexByte s.data.toList 0 < 0 := i0.2 h3
        clear i1 i0
        go_enter Tryd.func25, Tryd.ntmps25
        go_wp2_with (go_at_call 47; refine (H.out _ _).mono ?_; rintro e w' ⟨rfl, rfl⟩)
        go_ret
        exact ⟨rfl, rfl⟩
end Go.Proofs.YtmlnnbinbbmmhaaDoor
