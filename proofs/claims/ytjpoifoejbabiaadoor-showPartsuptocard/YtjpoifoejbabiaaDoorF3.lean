
-- The document's own runes: which run stands here.
import Derived.Test.YtjpoifoejbabiaaDoorF2
import Derived.Deep.MidRow
namespace Go.Proofs.YtjpoifoejbabiaaDoor
open Go.RowKit
set_option linter.unusedVariables false
set_option maxRecDepth 100000
theorem runLen_at (l : List UInt8) (k : Nat) (f : List (Nat × Nat)) (rest : List (List (Nat × Nat))) (hd : formsL.drop k = f :: rest) (hn : ∀ g ∈ formsL.take k, fitsL g l = false) (hf : fitsL f l = true) : runLen l = f.length := by
  unfold runLen
  have e : formsL = formsL.take k ++ (f :: rest) := by rw [← hd, List.take_append_drop]
  have hnone : (formsL.take k).find? (fun f => fitsL f l) = none := by
    rw [List.find?_eq_none]
    intro g hg
    rw [hn g hg]; simp
  rw [e, List.find?_append, hnone]
  simp [hf]
theorem runLen_no (l : List UInt8) (hn : ∀ g ∈ formsL.take 9, fitsL g l = false) : runLen l = 0 := by
  unfold runLen
  have hnone : formsL.find? (fun f => fitsL f l) = none := by
    rw [List.find?_eq_none]
    intro g hg
    rw [hn g hg]; simp
  rw [hnone]
theorem none_step {l : List UInt8} {k : Nat} (hn : ∀ g ∈ formsL.take k, fitsL g l = false) (j : Nat) (hj : j = k ∧ j < formsL.length) (hf : fitsL (formsL.getD j []) l = false) : ∀ g ∈ formsL.take (j + 1), fitsL g l = false := by
  intro g hg
  obtain ⟨rfl, hlt⟩ := hj
  rw [List.take_add_one, List.getElem?_eq_getElem hlt, List.mem_append] at hg
  rcases hg with hg | hg
  · exact hn g hg
  · simp at hg
    subst hg
    simpa [List.getD, List.getElem?_eq_getElem hlt] using hf
def formsA : Array Value := formC 1 0 127 0 0 0 0 0 0 ++ formC 2 194 223 128 191 0 0 0 0 ++ formC 3 224 224 160 191 128 191 0 0 ++ formC 3 225 236 128 191 128 191 0 0 ++ formC 3 238 239 128 191 128 191 0 0 ++ formC 3 237 237 128 159 128 191 0 0 ++ formC 4 240 240 144 191 128 191 128 191 ++ formC 4 241 243 128 191 128 191 128 191 ++ formC 4 244 244 128 143 128 191 128 191
end Go.Proofs.YtjpoifoejbabiaaDoor
