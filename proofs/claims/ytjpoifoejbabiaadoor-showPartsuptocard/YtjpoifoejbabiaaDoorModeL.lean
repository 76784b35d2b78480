
import Derived.Test.YtjpoifoejbabiaaDoorModeR
namespace Go.Proofs.YtjpoifoejbabiaaDoor
open Go.RowKit
set_option linter.unusedVariables false
set_option maxRecDepth 100000
def nb (M k : Nat) : Bool := (((M &&& k : Nat) : Int) != 0)
theorem bt_nb (m : Int) (k : Nat) (hk : k < 4096) : bt m k = nb (m % 4096).toNat k := by unfold bt nb; rw [i64_and m k hk]
theorem nb_pow (M j : Nat) : nb M (2 ^ j) = decide (M / 2 ^ j % 2 = 1) := by
  rw [← Nat.testBit_eq_decide_div_mod_eq]
  unfold nb
  cases h : M.testBit j with
  | false =>
    have e : M &&& 2 ^ j = 0 := by
      apply Nat.eq_of_testBit_eq
      intro i
      rw [Nat.testBit_and, Nat.zero_testBit]
      by_cases hi : i = j
      · subst hi; rw [h]; rfl
      · rw [Nat.testBit_two_pow_of_ne (fun e => hi e.symm)]; simp
    rw [e]; rfl
  | true =>
    have e : M &&& 2 ^ j ≠ 0 := by
      intro e
      have := congrArg (fun x => x.testBit j) e
      simp only [Nat.testBit_and, Nat.zero_testBit, h, Nat.testBit_two_pow_self] at this
      cases this
    simp; exact e
theorem bits_all (M : Fin 4096) : nb (M.val / 64 % 8) 4 = nb M.val 256 ∧ nb (M.val / 64 % 8) 2 = nb M.val 128 ∧ nb (M.val / 64 % 8) 1 = nb M.val 64 ∧
    nb (M.val / 8 % 8) 4 = nb M.val 32 ∧ nb (M.val / 8 % 8) 2 = nb M.val 16 ∧ nb (M.val / 8 % 8) 1 = nb M.val 8 ∧ nb (M.val % 8) 4 = nb M.val 4 ∧ nb (M.val % 8) 2 = nb M.val 2 ∧ nb (M.val % 8) 1 = nb M.val 1 := by
  obtain ⟨n, hn⟩ := M
  have f : ∀ x, nb x 256 = decide (x / 256 % 2 = 1) ∧ nb x 128 = decide (x / 128 % 2 = 1) ∧ nb x 64 = decide (x / 64 % 2 = 1) ∧ nb x 32 = decide (x / 32 % 2 = 1) ∧ nb x 16 = decide (x / 16 % 2 = 1) ∧ nb x 8 = decide (x / 8 % 2 = 1) ∧ nb x 4 = decide (x / 4 % 2 = 1) ∧ nb x 2 = decide (x / 2 % 2 = 1) ∧ nb x 1 = decide (x / 1 % 2 = 1) :=
    fun x => ⟨nb_pow x 8, nb_pow x 7, nb_pow x 6, nb_pow x 5, nb_pow x 4, nb_pow x 3, nb_pow x 2, nb_pow x 1, nb_pow x 0⟩
  simp only [f, decide_eq_decide]
  refine ⟨?_, ?_, ?_, ?_, ?_, ?_, ?_, ?_, ?_⟩ <;> omega
theorem lets_grp (m : Int) (M : Nat) (hM : M = (m % 4096).toNat) :
    lets m 3 = grp ((M / 64 % 8 : Nat) : Int) (bt (M : Int) 2048) 115 83 ++ grp ((M / 8 % 8 : Nat) : Int) (bt (M : Int) 1024) 115 83 ++ grp ((M % 8 : Nat) : Int) (bt (M : Int) 512) 116 84 := by
  have hlt : M < 4096 := by omega
  have e : ∀ (n : Nat), n < 4096 → ((n : Int) % 4096).toNat = n := fun n hn => by omega
  obtain ⟨a1, a2, a3, a4, a5, a6, a7, a8, a9⟩ := bits_all ⟨M, hlt⟩
  simp only [] at a1 a2 a3 a4 a5 a6 a7 a8 a9
  have b1 := bt_nb ((M / 64 % 8 : Nat) : Int) 4 (by decide)
  have b2 := bt_nb ((M / 64 % 8 : Nat) : Int) 2 (by decide)
  have b3 := bt_nb ((M / 64 % 8 : Nat) : Int) 1 (by decide)
  have b4 := bt_nb ((M / 8 % 8 : Nat) : Int) 4 (by decide)
  have b5 := bt_nb ((M / 8 % 8 : Nat) : Int) 2 (by decide)
  have b6 := bt_nb ((M / 8 % 8 : Nat) : Int) 1 (by decide)
  have b7 := bt_nb ((M % 8 : Nat) : Int) 4 (by decide)
  have b8 := bt_nb ((M % 8 : Nat) : Int) 2 (by decide)
  have b9 := bt_nb ((M % 8 : Nat) : Int) 1 (by decide)
  rw [e _ (by omega)] at b1 b2 b3 b4 b5 b6 b7 b8 b9
  have c1 := bt_nb m 256 (by decide)
  have c2 := bt_nb m 128 (by decide)
  have c3 := bt_nb m 64 (by decide)
  have c4 := bt_nb m 32 (by decide)
  have c5 := bt_nb m 16 (by decide)
  have c6 := bt_nb m 8 (by decide)
  have c7 := bt_nb m 4 (by decide)
  have c8 := bt_nb m 2 (by decide)
  have c9 := bt_nb m 1 (by decide)
  have d1 := bt_nb m 2048 (by decide)
  have d2 := bt_nb m 1024 (by decide)
  have d3 := bt_nb m 512 (by decide)
  have f1 := bt_nb (M : Int) 2048 (by decide)
  have f2 := bt_nb (M : Int) 1024 (by decide)
  have f3 := bt_nb (M : Int) 512 (by decide)
  rw [e M hlt] at f1 f2 f3
  rw [← hM] at c1 c2 c3 c4 c5 c6 c7 c8 c9 d1 d2 d3
  show [lif (bt m (256 : Nat)) 114, lif (bt m (128 : Nat)) 119, exl (bt m (64 : Nat)) (bt m (2048 : Nat)) 115, lif (bt m (32 : Nat)) 114, lif (bt m (16 : Nat)) 119, exl (bt m (8 : Nat)) (bt m (1024 : Nat)) 115, lif (bt m (4 : Nat)) 114, lif (bt m (2 : Nat)) 119, exl (bt m (1 : Nat)) (bt m (512 : Nat)) 116]
    = [lif (bt ((M / 64 % 8 : Nat) : Int) (4 : Nat)) 114, lif (bt ((M / 64 % 8 : Nat) : Int) (2 : Nat)) 119, if bt (M : Int) (2048 : Nat) then (if bt ((M / 64 % 8 : Nat) : Int) (1 : Nat) then 115 else 83) else (if bt ((M / 64 % 8 : Nat) : Int) (1 : Nat) then 120 else 45),
       lif (bt ((M / 8 % 8 : Nat) : Int) (4 : Nat)) 114, lif (bt ((M / 8 % 8 : Nat) : Int) (2 : Nat)) 119, if bt (M : Int) (1024 : Nat) then (if bt ((M / 8 % 8 : Nat) : Int) (1 : Nat) then 115 else 83) else (if bt ((M / 8 % 8 : Nat) : Int) (1 : Nat) then 120 else 45),
       lif (bt ((M % 8 : Nat) : Int) (4 : Nat)) 114, lif (bt ((M % 8 : Nat) : Int) (2 : Nat)) 119, if bt (M : Int) (512 : Nat) then (if bt ((M % 8 : Nat) : Int) (1 : Nat) then 116 else 84) else (if bt ((M % 8 : Nat) : Int) (1 : Nat) then 120 else 45)]
  rw [b1, b2, b3, b4, b5, b6, b7, b8, b9, c1, c2, c3, c4, c5, c6, c7, c8, c9, d1, d2, d3, f1, f2, f3, a1, a2, a3, a4, a5, a6, a7, a8, a9]
  rfl
theorem strI_app (a b : List Int) : strI (a ++ b) = strI a ++ strI b := by
  apply Go.WideShapes.bytes_inj
  simp [strI]
end Go.Proofs.YtjpoifoejbabiaaDoor
