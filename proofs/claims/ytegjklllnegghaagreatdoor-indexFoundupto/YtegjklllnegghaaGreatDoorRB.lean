
-- shelfref11.big: contracts.
import Derived.Test.YtegjklllnegghaaGreatDoorRG
import Derived.Test.YtegjklllnegghaaGreatDoorEN
namespace Go.Proofs.YtegjklllnegghaaGreatDoor
open Go.ChangeShapes Go.WideShapes Go.ChangeAt Go.RowKit
set_option linter.unusedVariables false
set_option maxRecDepth 100000
def ASays (A : Option (List En)) (w : World) (e : Ending) (w' : World) : Prop := DecSays (if A.isSome = true then 0 else 110) (A.getD []) w e w'
theorem getI_neg {v : Nat} (h : ¬ v ≤ mostI) : getI v = -1 := by unfold getI; rw [if_neg h]
theorem getI_pos {v : Nat} (h : v ≤ mostI) : getI v = v := by unfold getI; rw [if_pos h]
theorem nmE_some {b : List UInt8} {p e : Nat} (h : nmE b p = some e) : p < e ∧ e < b.length ∧ zAt b p = some e := by
  unfold nmE at h
  cases q : zAt b p with
  | none => rw [q] at h; cases h
  | some x =>
    rw [q] at h; simp only [Option.bind_some] at h
    by_cases hx : p < x
    · rw [if_pos hx] at h; injection h with h; subst h; exact ⟨hx, (zAt_some q).2.1, rfl⟩
    · rw [if_neg hx] at h; cases h
theorem nmS_size {b : List UInt8} {p e : Nat} (h : nmE b p = some e) : (nmS b p).size = e - p := by
  obtain ⟨h1, h2, _⟩ := nmE_some h
  unfold nmS; rw [strL_size, h, List.length_take, List.length_drop]; simp; omega
theorem rowP_ge (b : List UInt8) (w n : Nat) : ∀ k p, rowP b w n k = some p → p ≤ b.length ∨ (k = 0 ∧ p = w + w * n) := by
  intro k
  cases k with
  | zero => intro p h; simp only [rowP, Option.some.injEq] at h; exact .inr ⟨rfl, h.symm⟩
  | succ k =>
    intro p h
    simp only [rowP] at h
    cases q : rowP b w n k with
    | none => rw [q] at h; cases h
    | some p0 =>
      rw [q] at h; simp only [Option.bind_some] at h
      cases r : nmE b p0 with
      | none => rw [r] at h; cases h
      | some e =>
        rw [r] at h; simp only [Option.bind_some] at h
        have := (nmE_some r).2.1
        split at h
        · injection h with h; left; omega
        · cases h
theorem rowP_next {b : List UInt8} {w n k p e : Nat} (h : rowP b w n k = some p) (hn : nmE b p = some e) (hp : beW b (w + w * k) w ≤ mostI) : rowP b w n (k + 1) = some (e + 1) := by
  simp only [rowP, h, Option.bind_some, hn]; rw [if_pos hp]
theorem rowP_stop {b : List UInt8} {w n k p : Nat} (h : rowP b w n k = some p) (hx : nmE b p = none ∨ ¬ beW b (w + w * k) w ≤ mostI) : rowP b w n (k + 1) = none := by
  simp only [rowP, h, Option.bind_some]
  rcases hx with hx | hx
  · rw [hx]; rfl
  · cases q : nmE b p with
    | none => rfl
    | some e => simp only [Option.bind_some]; rw [if_neg hx]
theorem rowP_stuck {b : List UInt8} {w n k : Nat} (h : rowP b w n k = none) : ∀ m, k ≤ m → rowP b w n m = none := by
  intro m hm
  induction m with
  | zero => obtain rfl : k = 0 := by omega
            exact h
  | succ m ih =>
    by_cases e : k = m + 1
    · subst e; exact h
    · simp only [rowP, ih (by omega)]; rfl
theorem enR_at {b : List UInt8} {w n k p : Nat} (h : rowP b w n k = some p) : enR b w n k = ⟨nmS b p, (beW b (w + w * k) w : Nat)⟩ := by unfold enR; rw [h]; rfl
theorem rowA_short {b : List UInt8} {w : Nat} (h : b.length < w) : rowA b w = none := by unfold rowA; rw [if_pos h]
theorem rowA_many {b : List UInt8} {w : Nat} (h : (b.length - w) / w < beW b 0 w) : rowA b w = none := by unfold rowA; rw [if_pos h]; split <;> rfl
theorem rowA_stop {b : List UInt8} {w k : Nat} (h : rowP b w (beW b 0 w) k = none) (hk : k ≤ beW b 0 w) : rowA b w = none := by
  unfold rowA; rw [rowP_stuck h _ hk]; split <;> (try rfl); split <;> rfl
theorem rowA_end {b : List UInt8} {w p : Nat} (h1 : ¬ b.length < w) (h2 : ¬ (b.length - w) / w < beW b 0 w) (h : rowP b w (beW b 0 w) (beW b 0 w) = some p) : rowA b w = if zerosB b p = true then some (rowL b w (beW b 0 w)) else none := by
  unfold rowA; rw [if_neg h1, if_neg h2, h]; rfl
theorem zeros_no {b : List UInt8} {p j : Nat} {c : UInt8} (hj : p ≤ j) (h : b[j]? = some c) (hc : ¬ c.toNat = 0) : zerosB b p = false := by
  cases q : zerosB b p
  · rfl
  · exact absurd ((zerosB_iff b p).1 q j c hj h) (fun e => hc (by rw [e]; rfl))
end Go.Proofs.YtegjklllnegghaaGreatDoor
