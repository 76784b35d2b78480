
-- shelflaw8.alike: two answers of Encode that say the same.
import Derived.Test.YtlobgecincppkaaDoorA8
import Derived.Test.YtlobgecincppkaaDoorFV
import Derived.WalkSmall
namespace Go.Proofs.YtlobgecincppkaaDoor
open Go.ChangeShapes Go.WideShapes Go.ChangeAt Go.RowKit
set_option linter.unusedVariables false
set_option maxRecDepth 100000

/-- two slices that read as one list, in this world and in every one above it -/
def Alike2 (w : World) (a b : Value) : Prop := ∃ l, RowS w a l ∧ RowS w b l ∧ l.length ≤ 4194304
theorem same2 (w w' : World) (a b : Value) (h : Alike2 w a b) (hb : Below w.heap.size w w') : Calls Tryd.prog 9 #[a, b] w' fun e w'' => e = .returned (.bool true) ∧ ∃ n, w'' = w'.drewN n := by
  obtain ⟨l, h1, h2, h3⟩ := h
  refine (same_c a b l l w' (h1.on hb) (h2.on hb) h3 h3).mono fun e w'' ⟨he, hn⟩ => ⟨?_, hn⟩
  rw [he, decide_eq_true (rfl : l = l)]
set_option maxHeartbeats 2000000 in
theorem alike_c (va vb ua ub : Value) (t : ByteArray) (w : World) (P1 : Alike2 w va vb) (P2 : Alike2 w ua ub) :
    Calls Tryd.prog 7 #[.agg #[va, ua, .string t], .agg #[vb, ub, .string t]] w fun e w' => e = .returned (.bool true) ∧ Below w.heap.size w w' := by
  have H : Hid (∀ (a b : Value) (w' : World), Alike2 w a b → Below w.heap.size w w' → Calls Tryd.prog 9 #[a, b] w' fun e w'' => e = .returned (.bool true) ∧ ∃ n, w'' = w'.drewN n) := fun a b w' h hb => same2 w w' a b h hb
  have f1 : ∃ x n c, va = .slice x n c := by obtain ⟨l, h, _⟩ := P1; obtain ⟨x, c, rfl⟩ := h.form; exact ⟨_, _, _, rfl⟩
  have f2 : ∃ x n c, vb = .slice x n c := by obtain ⟨l, _, h, _⟩ := P1; obtain ⟨x, c, rfl⟩ := h.form; exact ⟨_, _, _, rfl⟩
  have f3 : ∃ x n c, ua = .slice x n c := by obtain ⟨l, h, _⟩ := P2; obtain ⟨x, c, rfl⟩ := h.form; exact ⟨_, _, _, rfl⟩
  have f4 : ∃ x n c, ub = .slice x n c := by obtain ⟨l, _, h, _⟩ := P2; obtain ⟨x, c, rfl⟩ := h.form; exact ⟨_, _, _, rfl⟩
  obtain ⟨x1, n1, c1, rfl⟩ := f1
  obtain ⟨x2, n2, c2, rfl⟩ := f2
  obtain ⟨x3, n3, c3, rfl⟩ := f3
  obtain ⟨x4, n4, c4, rfl⟩ := f4
  have b0 : Below w.heap.size w ((w.alloc (.cells #[.slice x1 n1 c1, .slice x3 n3 c3, .string t] 24)).alloc (.cells #[.slice x2 n2 c2, .slice x4 n4 c4, .string t] 24)) := bup (bup (Below.refl _ _) _) _
  go_enter Tryd.func7, Tryd.ntmps7
  go_wp2_with (first
    | (go_at_call 9; refine (H.out _ _ _ (by assumption) (by first | exact b0 | exact below_drewN b0 _)).mono ?_; rintro e wa ⟨rfl, na, hwa⟩; subst wa))
  go_ret
  exact ⟨by first | rfl | simp, below_drewN b0 _⟩
end Go.Proofs.YtlobgecincppkaaDoor
