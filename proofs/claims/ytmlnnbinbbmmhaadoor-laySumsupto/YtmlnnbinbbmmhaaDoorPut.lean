
-- Plain mathematics: the digits of a number to a base.
import Derived.Test.YtmlnnbinbbmmhaaDoorDigits
namespace Go.Proofs.YtmlnnbinbbmmhaaDoor

-- a digit's byte
def dbyte (d : Nat) : UInt8 := UInt8.ofNat (48 + d)
theorem dbyte_toNat (d : Nat) (h : d < 208) : (dbyte d).toNat = 48 + d := by unfold dbyte; simp; omega
def dgs (B : Nat) : Nat → Nat → List UInt8
  | 0, _ => []
  | f + 1, v => if v < B then [dbyte (v)] else dgs B f (v / B) ++ [dbyte (v % B)]
theorem dgs_fuel (B : Nat) (hB : 2 ≤ B) : ∀ (f g v : Nat), v < B ^ f → v < B ^ g → 1 ≤ f → 1 ≤ g → dgs B f v = dgs B g v
  | 0, _, _, _, _, h, _ => by omega
  | _ + 1, 0, _, _, _, _, h => by omega
  | f + 1, g + 1, v, h1, h2, _, _ => by
    unfold dgs
    by_cases h : v < B
    · rw [if_pos h, if_pos h]
    · rw [if_neg h, if_neg h]
      have e1 : v / B < B ^ f := by rw [Nat.pow_succ] at h1; exact Nat.div_lt_of_lt_mul (by rw [Nat.mul_comm]; exact h1)
      have e2 : v / B < B ^ g := by rw [Nat.pow_succ] at h2; exact Nat.div_lt_of_lt_mul (by rw [Nat.mul_comm]; exact h2)
      have hf : 1 ≤ f := by
        cases f with
        | zero => simp at h1; omega
        | succ f => omega
      have hg : 1 ≤ g := by
        cases g with
        | zero => simp at h2; omega
        | succ g => omega
      rw [dgs_fuel B hB f g (v / B) e1 e2 hf hg]
def dg (B v : Nat) : List UInt8 := dgs B 64 v
theorem dg_one (B v : Nat) (h : v < B) : dg B v = [dbyte (v)] := by
  unfold dg dgs; rw [if_pos h]
theorem dg_more (B v : Nat) (hB : 2 ≤ B) (h : ¬ v < B) (hv : v < B ^ 64) : dg B v = dg B (v / B) ++ [dbyte (v % B)] := by
  have e1 : v / B < B ^ 63 := by
    have : B ^ 64 = B ^ 63 * B := Nat.pow_succ B 63
    rw [this] at hv; exact Nat.div_lt_of_lt_mul (by rw [Nat.mul_comm]; exact hv)
  have e2 : v / B < B ^ 64 := Nat.lt_of_lt_of_le e1 (Nat.pow_le_pow_right (by omega) (by omega))
  have e : dgs B 63 (v / B) = dgs B 64 (v / B) := dgs_fuel B hB 63 64 (v / B) e1 e2 (by omega) (by omega)
  have e0 : dgs B 64 v = dgs B 63 (v / B) ++ [dbyte (v % B)] := by
    rw [show (64 : Nat) = 63 + 1 from rfl, dgs, if_neg h]
  unfold dg
  rw [e0, e]
theorem byte_toNat (n : Nat) (h : n < 256) : (UInt8.ofNat n).toNat = n := by simp; omega
/-- induction over the digits: the last one goes -/
theorem dg_ind (B : Nat) (hB : 2 ≤ B) (P : Nat → Prop) (h1 : ∀ v, v < B → P v) (h2 : ∀ v, ¬ v < B → P (v / B) → P v) : ∀ v, P v := by
  intro v
  induction v using Nat.strongRecOn with
  | ind v ih =>
    by_cases h : v < B
    · exact h1 v h
    · exact h2 v h (ih (v / B) (Nat.div_lt_self (by omega) (by omega)))
theorem dg_val (B : Nat) (hB : 2 ≤ B) (hB2 : B ≤ 10) (v : Nat) : v < B ^ 64 → val B 0 (dg B v) = v := by
  refine dg_ind B hB (fun v => v < B ^ 64 → val B 0 (dg B v) = v) ?_ ?_ v
  · intro v h _
    rw [dg_one B v h, val_cons, val_nil]
    unfold dv; rw [dbyte_toNat _ (by omega)]; omega
  · intro v h ih hv
    have hlt : v / B < B ^ 64 := Nat.lt_of_le_of_lt (Nat.div_le_self _ _) hv
    have hm : v % B < B := Nat.mod_lt _ (by omega)
    rw [dg_more B v hB h hv, val_snoc, ih hlt]
    unfold dv; rw [dbyte_toNat _ (by omega)]
    have := Nat.div_add_mod v B
    rw [Nat.mul_comm] at this; omega
theorem dg_dig (B : Nat) (hB : 2 ≤ B) (hB2 : B ≤ 10) (v : Nat) : v < B ^ 64 → ∀ x ∈ dg B v, dig B x = true := by
  have one (d : Nat) (h : d < B) : dig B (dbyte (d)) = true := by
    unfold dig; rw [dbyte_toNat _ (by omega)]; simp; omega
  refine dg_ind B hB (fun v => v < B ^ 64 → ∀ x ∈ dg B v, dig B x = true) ?_ ?_ v
  · intro v h _ x hx
    rw [dg_one B v h] at hx
    rw [List.mem_singleton.1 hx]; exact one v h
  · intro v h ih hv x hx
    have hlt : v / B < B ^ 64 := Nat.lt_of_le_of_lt (Nat.div_le_self _ _) hv
    rw [dg_more B v hB h hv] at hx
    rcases List.mem_append.1 hx with h' | h'
    · exact ih hlt x h'
    · rw [List.mem_singleton.1 h']; exact one _ (Nat.mod_lt v (by omega))
theorem dg_pos (B : Nat) (hB : 2 ≤ B) (v : Nat) : v < B ^ 64 → 1 ≤ (dg B v).length := by
  refine dg_ind B hB (fun v => v < B ^ 64 → 1 ≤ (dg B v).length) ?_ ?_ v
  · intro v h _; rw [dg_one B v h]; simp
  · intro v h ih hv; rw [dg_more B v hB h hv]; simp
theorem dg_first (B : Nat) (hB : 2 ≤ B) (hB2 : B ≤ 10) (v : Nat) : v < B ^ 64 → ∃ c r, dg B v = c :: r ∧ 48 ≤ c.toNat ∧ c.toNat < 48 + B ∧ (0 < v → ¬ c.toNat = 48) := by
  refine dg_ind B hB (fun v => v < B ^ 64 → ∃ c r, dg B v = c :: r ∧ 48 ≤ c.toNat ∧ c.toNat < 48 + B ∧ (0 < v → ¬ c.toNat = 48)) ?_ ?_ v
  · intro v h _
    refine ⟨_, _, dg_one B v h, ?_⟩
    rw [dbyte_toNat _ (by omega)]; omega
  · intro v h ih hv
    have hlt : v / B < B ^ 64 := Nat.lt_of_le_of_lt (Nat.div_le_self _ _) hv
    obtain ⟨c, r, e, h1, h2, h3⟩ := ih hlt
    rw [dg_more B v hB h hv, e, List.cons_append]
    exact ⟨c, _, rfl, h1, h2, fun _ => h3 (Nat.div_pos (by omega) (by omega))⟩
/-- so many digits hold just the numbers below that power -/
theorem dg_len (B : Nat) (hB : 2 ≤ B) : ∀ (w v : Nat), v < B ^ 64 → 1 ≤ w → ((dg B v).length ≤ w ↔ v < B ^ w)
  | 0, _, _, h => by omega
  | w + 1, v, hv, _ => by
    by_cases h : v < B
    · rw [dg_one B v h]
      have : B ^ 1 ≤ B ^ (w + 1) := Nat.pow_le_pow_right (by omega) (by omega)
      simp at this ⊢; omega
    · have hlt : v / B < B ^ 64 := Nat.lt_of_le_of_lt (Nat.div_le_self _ _) hv
      have hp := dg_pos B hB (v / B) hlt
      rw [dg_more B v hB h hv, List.length_append, List.length_singleton]
      cases w with
      | zero => simp only [Nat.zero_add, Nat.pow_one]; omega
      | succ w =>
        have ih := dg_len B hB (w + 1) (v / B) hlt (by omega)
        have e : v < B ^ (w + 1 + 1) ↔ v / B < B ^ (w + 1) := by
          rw [Nat.pow_succ B (w + 1), Nat.div_lt_iff_lt_mul (by omega)]
        rw [e, ← ih]; omega
theorem big64 (B v : Nat) (hB : 8 ≤ B) (hv : v ≤ 9223372036854775807) : v < B ^ 64 := by
  have h1 : 8 ^ 64 ≤ B ^ 64 := Nat.pow_le_pow_left hB 64
  have h2 : (8 : Nat) ^ 64 = 6277101735386680763835789423207666416102355444464034512896 := by decide
  omega
end Go.Proofs.YtmlnnbinbbmmhaaDoor
