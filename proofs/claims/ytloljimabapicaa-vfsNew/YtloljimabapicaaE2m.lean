
-- What the disk's calls must do (its contracts).
import Derived.Test.YtloljimabapicaaM0
import Derived.Test.YtloljimabapicaaProg
import Derived.WalkKit
import Derived.OwnWalk
import Derived.Handy
import Derived.Deep.QuietTactic
import Derived.BigQuiet
import Derived.Laws.OwnMore
namespace Go.Proofs.Ytloljimabapicaa
open Go.RowKit
set_option linter.unusedVariables false
/-- What a call on the program's volume has done. -/
def PDid (PS : (Nat → Prop) → Nat → St → World → Prop) (F : Nat → Prop) (p : Nat) (st : St) (w w' : World) : Prop := PS (ext F w w') p st w' ∧ Kp F w w'
/-- The program's volume: 'PS F p st w': the volume at block p, its memory in blocks of F, is the volume st. -/
structure PC (PS : (Nat → Prop) → Nat → St → World → Prop) : Prop where
  same : ∀ {F p st w w'}, PS F p st w → (∀ k, F k → k < w.heap.size → w'.heap[k]? = w.heap[k]?) → PS F p st w'
  mono : ∀ {F G : Nat → Prop} {p st w}, PS F p st w → (∀ k, F k → G k) → PS G p st w
  new_no : ∀ (c : Int) (w : World), (c < 0 ∨ 1073741824 < c) → Calls Try.prog 9 #[.int .i64 c] w fun e w' => e = .returned (.pointer none) ∧ Below w.heap.size w w'
  new_c : ∀ (c : Nat) (w : World), c ≤ 1073741824 → Calls Try.prog 9 #[.int .i64 c] w fun e w' => ∃ p, e = .returned (.pointer (some ⟨p, 0, none⟩)) ∧ PS (fun k => w.heap.size ≤ k ∧ k < w'.heap.size) p (St.new c) w' ∧ Below w.heap.size w w'
  names : ∀ F p st w, PS F p st w → Wf st → Calls Try.prog 37 #[.pointer (some ⟨p, 0, none⟩)] w fun e w' => (∃ v, e = .returned v ∧ w'.ownsRow w.heap.size 9 1 v st.names.length (strV st.names)) ∧ PS F p st w' ∧ Kp F w w'
variable {PS : (Nat → Prop) → Nat → St → World → Prop}
theorem PC.below (C : PC PS) {F : Nat → Prop} {p : Nat} {st : St} {w w' : World} (h : PS F p st w) (hb : Below w.heap.size w w') : PS F p st w' := C.same h fun k _ hk => hb.block k hk
theorem info3 : (Try.prog.info? 3).map (fun i => (i.zero, i.size, i.bytes)) = some (some (.int .i64 0), 1, 8) := by kernel_rfl
end Go.Proofs.Ytloljimabapicaa
