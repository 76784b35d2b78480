
-- The calls of the device that fails.
import Derived.Test.YtloljimabapicaaU4
import Derived.Deep.RegionHeld3
import Derived.Deep.DrawnRows
namespace Go.Proofs.Ytloljimabapicaa
open Go.RowKit
set_option linter.unusedVariables false
variable {PS : (Nat → Prop) → Nat → St → World → Prop}
theorem PVo.cell0 {G Fd : Nat → Prop} {q p : Nat} {m : Option Nat} {v : Vs} {w : World} (O : PVo PS G q v w p m Fd) : w.cell? ⟨q, 0, none⟩ = some (.iface 37 (.agg #[.pointer (some ⟨p, 0, none⟩)])) := O.cells.1
theorem VDid.after {G : Nat → Prop} {q : Nat} {v v' : Vs} {w w1 w2 : World} (h : PV PS G q v w1) (hk : Kp G w w1) (hd : VDid PS G q v' w1 w2) : VDid PS G q v' w w2 := by
  have h1 := hk.size
  have h2 := hd.2.size
  refine ⟨hd.1.mono (fun i hi => ?_) (fun i hi => ?_), hk.trans hd.2⟩
  · rcases hi with hi | hi
    · exact .inl hi
    · exact .inr ⟨by omega, hi.2⟩
  · rcases hi with hi | hi
    · exact hd.1.low i (.inl hi)
    · exact hi.2
theorem met_0 {v : Vs} (h : v.met.1 = 0) (st : St) : v.met.2.on st = v.met.2.on st := rfl
end Go.Proofs.Ytloljimabapicaa
