
-- What the disk's calls must do (its contracts).
import Derived.Test.YtjbphheojfclcaaGreatM0
import Derived.Test.YtjbphheojfclcaaGreatProg
import Derived.WalkKit
import Derived.OwnWalk
import Derived.Handy
import Derived.Deep.QuietTactic
import Derived.BigQuiet
import Derived.Laws.OwnMore
namespace Go.Proofs.YtjbphheojfclcaaGreat
open Go.RowKit
set_option linter.unusedVariables false
/-- What a call on the program's volume has done. -/
def PDid (PS : (Nat → Prop) → Nat → St → World → Prop) (F : Nat → Prop) (p : Nat) (st : St) (w w' : World) : Prop := PS (ext F w w') p st w' ∧ Kp F w w'
/-- The program's volume: 'PS F p st w': the volume at block p, its memory in blocks of F, is the volume st. -/
structure PC (PS : (Nat → Prop) → Nat → St → World → Prop) : Prop where
  same : ∀ {F p st w w'}, PS F p st w → (∀ k, F k → k < w.heap.size → w'.heap[k]? = w.heap[k]?) → PS F p st w'
  mono : ∀ {F G : Nat → Prop} {p st w}, PS F p st w → (∀ k, F k → G k) → PS G p st w
  new_no : ∀ (c : Int) (w : World), (c < 0 ∨ 1073741824 < c) → Calls Tryz.prog 24 #[.int .i64 c] w fun e w' => e = .returned (.pointer none) ∧ Below w.heap.size w w'
  new_c : ∀ (c : Nat) (w : World), c ≤ 1073741824 → Calls Tryz.prog 24 #[.int .i64 c] w fun e w' => ∃ p, e = .returned (.pointer (some ⟨p, 0, none⟩)) ∧ PS (fun k => w.heap.size ≤ k ∧ k < w'.heap.size) p (St.new c) w' ∧ Below w.heap.size w w'
  create : ∀ F p st name m0 m1 m2 m3 w, PS F p st w → Wf st → Calls Tryz.prog 50 #[.pointer (some ⟨p, 0, none⟩), .string name, .agg #[.int .i64 m0, .int .i64 m1, .int .i64 m2, .int .i64 m3]] w fun e w' =>
    e = .returned (.tuple #[.int .i64 (st.create name m0 m1 m2 m3).1.1, .int .i64 (st.create name m0 m1 m2 m3).1.2]) ∧ PDid PS F p (st.create name m0 m1 m2 m3).2 w w'
  append : ∀ F p st n data w, PS F p st w → Wf st → data.size ≤ 140737488355328 → Calls Tryz.prog 54 #[.pointer (some ⟨p, 0, none⟩), .int .i64 n, .string data] w fun e w' => e = .returned (.int .i64 (st.append n data).1) ∧ PDid PS F p (st.append n data).2 w w'
  sync : ∀ F p st n w, PS F p st w → Wf st → Calls Tryz.prog 55 #[.pointer (some ⟨p, 0, none⟩), .int .i64 n] w fun e w' => e = .returned (.int .i64 (st.sync n).1) ∧ PDid PS F p (st.sync n).2 w w'
  syncDir : ∀ F p st w, PS F p st w → Wf st → Calls Tryz.prog 53 #[.pointer (some ⟨p, 0, none⟩)] w fun e w' => e = .returned (.tuple #[]) ∧ PDid PS F p st.syncDir w w'
  rename : ∀ F p st old to w, PS F p st w → Wf st → Calls Tryz.prog 51 #[.pointer (some ⟨p, 0, none⟩), .string old, .string to] w fun e w' => e = .returned (.int .i64 (st.rename old to).1) ∧ PDid PS F p (st.rename old to).2 w w'
  remove : ∀ F p st name w, PS F p st w → Wf st → Calls Tryz.prog 52 #[.pointer (some ⟨p, 0, none⟩), .string name] w fun e w' => e = .returned (.int .i64 (st.remove name).1) ∧ PDid PS F p (st.remove name).2 w w'
  crash : ∀ F p st n cv cuts w, PS F p st w → Wf st → RowI w cv cuts → (cuts ≠ [] → ∀ k, cv.ownBlock = some k → ¬ F k) → cuts.length ≤ 4194304 → Calls Tryz.prog 26 #[.pointer (some ⟨p, 0, none⟩), .int .i64 n, cv] w fun e w' => e = .returned (.tuple #[]) ∧ PDid PS F p (st.crash n cuts) w w'
  find : ∀ F p st name w, PS F p st w → Wf st → Calls Tryz.prog 48 #[.pointer (some ⟨p, 0, none⟩), .string name] w fun e w' => e = .returned (.tuple #[.agg (infoV (st.find name).1.1 (st.find name).1.2), .int .i64 (st.find name).2.1, .int .i64 (st.find name).2.2]) ∧ PS F p st w' ∧ Kp F w w'
  read : ∀ F p st n w, PS F p st w → Wf st → Calls Tryz.prog 49 #[.pointer (some ⟨p, 0, none⟩), .int .i64 n] w fun e w' => e = .returned (.tuple #[.string (st.read n).1, .int .i64 (st.read n).2]) ∧ PS F p st w' ∧ Kp F w w'
  names : ∀ F p st w, PS F p st w → Wf st → Calls Tryz.prog 45 #[.pointer (some ⟨p, 0, none⟩)] w fun e w' => (∃ v, e = .returned v ∧ w'.ownsRow w.heap.size 9 1 v st.names.length (strV st.names)) ∧ PS F p st w' ∧ Kp F w w'
variable {PS : (Nat → Prop) → Nat → St → World → Prop}
theorem PC.below (C : PC PS) {F : Nat → Prop} {p : Nat} {st : St} {w w' : World} (h : PS F p st w) (hb : Below w.heap.size w w') : PS F p st w' := C.same h fun k _ hk => hb.block k hk
theorem info3 : (Tryz.prog.info? 3).map (fun i => (i.zero, i.size, i.bytes)) = some (some (.int .i64 0), 1, 8) := by kernel_rfl
end Go.Proofs.YtjbphheojfclcaaGreat
