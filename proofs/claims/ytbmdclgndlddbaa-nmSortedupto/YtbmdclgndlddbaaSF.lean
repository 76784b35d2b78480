
-- slices' merge in place, said of parts of a row.
import Derived.Test.YtbmdclgndlddbaaSE
namespace Go.Proofs.Ytbmdclgndlddbaa
open Go.ChangeShapes Go.WideShapes Go.ChangeAt Go.RowKit Go.Sort Go.Shelf Go.Lib
set_option linter.unusedVariables false
set_option maxRecDepth 100000
set_option linter.unusedSimpArgs false
section
variable {P : Program} {α : Type} [Inhabited α] {enc : α → List Value} {k : Nat} {w0 : World} {blk off : Nat} {d0 : Array α}
/-- what is asked of the insertion -/
def InsC (P : Program) (enc : α → List Value) (k : Nat) (w0 : World) (blk off : Nat) (d0 : Array α) (g : Nat) (cb : Array Value) (cap : Nat) (C Ro : α → α → Prop) : Prop :=
  ∀ {a b : Nat} {dk : Array α} {W : World}, a ≤ b → b ≤ d0.size → (seg dk.toList a b).Pairwise C → SWK enc k w0 blk off dk W → dk.size = d0.size →
    Calls P 26 #[.slice (some ⟨blk, off, none⟩) d0.size cap, .int .i64 a, .int .i64 b, .func (.func g) #[] cb] W fun e w' => e = .returned (.tuple #[]) ∧ ∃ d' : Array α, SWK enc k w0 blk off d' w' ∧ ∃ S, d'.toList = dk.toList.take a ++ (S ++ dk.toList.drop b) ∧ S.Perm (seg dk.toList a b) ∧ S.Pairwise Ro
/-- what is asked of the merge -/
def MrgC (P : Program) (enc : α → List Value) (k : Nat) (w0 : World) (blk off : Nat) (d0 : Array α) (g : Nat) (cb : Array Value) (cap : Nat) (C Ro : α → α → Prop) : Prop :=
  ∀ {a m b : Nat} {dk : Array α} {W : World}, a < m → m < b → b ≤ d0.size → (seg dk.toList a m).Pairwise Ro → (seg dk.toList m b).Pairwise Ro → (∀ x ∈ seg dk.toList a m, ∀ y ∈ seg dk.toList m b, C x y) → SWK enc k w0 blk off dk W → dk.size = d0.size →
    Calls P 27 #[.slice (some ⟨blk, off, none⟩) d0.size cap, .int .i64 a, .int .i64 m, .int .i64 b, .func (.func g) #[] cb] W fun e w' => e = .returned (.tuple #[]) ∧ ∃ d' : Array α, SWK enc k w0 blk off d' w' ∧ ∃ S, d'.toList = dk.toList.take a ++ (S ++ dk.toList.drop b) ∧ S.Perm (seg dk.toList a m ++ seg dk.toList m b) ∧ S.Pairwise Ro
theorem sym_seg (L : StL P k) (R : RowK enc k w0 blk off d0) {g : Nat} {cb : Array Value} {cf : α → α → Int} (eg : ∀ args w, (callFunc g args).run P w = .ok (.enter g args) w) (hcmp : CmpLays P g cb enc k cf blk off d0.size w0) {C Ro : α → α → Prop} (H : Cmp (ltOf cf) C Ro) (cap : Nat) (hsz : d0.size < 4611686018427387904) : MrgC P enc k w0 blk off d0 g cb cap C Ro := by
  intro a m b dk W h1 h2 hb hX hY hC hW hs
  have hl : dk.toList.length = dk.size := Array.length_toList
  have e : dk.toList = dk.toList.take a ++ (seg dk.toList a m ++ (seg dk.toList m b ++ dk.toList.drop b)) := by
    conv => lhs; rw [seg_parts dk.toList (a := a) (b := b) (by omega) (by omega), seg_split dk.toList (by omega : a ≤ m) (by omega : m ≤ b)]
    simp
  have l1 : (seg dk.toList a m).length = m - a := seg_len _ (by omega)
  have l2 : (seg dk.toList m b).length = b - m := seg_len _ (by omega)
  exact (sym_all L R eg hcmp H cap hsz (b - a + 1) (by omega) e (by rw [List.length_take]; omega) (by omega) (by omega) (by omega) (by omega) hX hY hC hW hs).mono fun _ _ h => h
end
end Go.Proofs.Ytbmdclgndlddbaa
