
-- slices' merge in place (5): whole.
import Derived.Test.YtbmdclgndlddbaaSD
namespace Go.Proofs.Ytbmdclgndlddbaa
open Go.ChangeShapes Go.WideShapes Go.ChangeAt Go.RowKit Go.Sort Go.Shelf Go.Lib
set_option linter.unusedVariables false
set_option maxRecDepth 100000
set_option linter.unusedSimpArgs false
section
variable {P : Program} {α : Type} [Inhabited α] {enc : α → List Value} {k : Nat} {w0 : World} {blk off : Nat} {d0 : Array α}
theorem sym_all (L : StL P k) (R : RowK enc k w0 blk off d0) {g : Nat} {cb : Array Value} {cf : α → α → Int} (eg : ∀ args w, (callFunc g args).run P w = .ok (.enter g args) w) (hcmp : CmpLays P g cb enc k cf blk off d0.size w0) {C Ro : α → α → Prop} (H : Cmp (ltOf cf) C Ro) (cap : Nat) (hsz : d0.size < 4611686018427387904) : ∀ n : Nat, SymC P enc k w0 blk off d0 g cb cap C Ro n := by
  intro n
  induction n with
  | zero => intro A X Y Z a m b dk W hn; omega
  | succ n ih =>
    intro A X Y Z a m b dk W hn hd ha hm hb hx hy hX hY hC hW hs
    by_cases h1 : X.length = 1
    · obtain ⟨x, rfl⟩ : ∃ x, X = [x] := by
        match X, h1 with
        | [x], _ => exact ⟨x, rfl⟩
      exact sym_one_l L R eg hcmp H cap hsz (by rw [hd]; simp) ha (by simpa using hm) hb hY (fun y hy2 => hC x (by simp) y hy2) hW hs
    · by_cases h2 : Y.length = 1
      · obtain ⟨y, rfl⟩ : ∃ y, Y = [y] := by
          match Y, h2 with
          | [y], _ => exact ⟨y, rfl⟩
        exact sym_one_r L R eg hcmp H cap hsz (by rw [hd]; simp) ha hm (by omega) (by simpa using hb) hX (fun x hx2 => hC x hx2 y (by simp)) hW hs
      · exact sym_step L R eg hcmp H cap hsz ih (by omega) hd ha hm hb (by omega) (by omega) hX hY hC hW hs
end
end Go.Proofs.Ytbmdclgndlddbaa
