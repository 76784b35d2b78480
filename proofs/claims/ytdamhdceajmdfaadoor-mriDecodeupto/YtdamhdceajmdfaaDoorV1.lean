
-- mri's small functions: letters, brackets, words.
import Derived.Test.YtdamhdceajmdfaaDoorP1
import Derived.Test.YtdamhdceajmdfaaDoorTV
import Derived.Test.YtdamhdceajmdfaaDoorT5
import Derived.Test.YtdamhdceajmdfaaDoorK1
import Derived.Lib.OthersKept
import Derived.Laws.DeepStrings4
namespace Go.Proofs.YtdamhdceajmdfaaDoor
open Go.ChangeShapes Go.WideShapes Go.ChangeAt Go.RowKit Go.MapKept
set_option linter.unusedVariables false
set_option maxRecDepth 100000
set_option linter.unusedSimpArgs false
theorem capB_nat (b : UInt8) : (capB b).toNat = if 97 ≤ b.toNat ∧ b.toNat ≤ 122 then b.toNat - 32 else b.toNat := by
  have : ∀ k : Fin 256, (capB (UInt8.ofNat k.val)).toNat = if 97 ≤ k.val ∧ k.val ≤ 122 then k.val - 32 else k.val := by decide +kernel
  have h := this ⟨b.toNat, b.toNat_lt⟩
  simpa using h
theorem capital_c (b : UInt8) (w : World) : Calls Tryd.prog 59 #[.int .u8 (b.toNat : Int)] w fun e w' => e = .returned (.int .u8 ((capB b).toNat : Int)) ∧ w' = w := by
  have hb := b.toNat_lt
  rw [capB_nat]
  obtain ⟨n, hn⟩ : ∃ n : Nat, n = b.toNat := ⟨_, rfl⟩
  rw [← hn] at hb ⊢
  clear hn
  by_cases h0 : 97 ≤ n
  · have b0 : decide (97 ≤ (n : Int)) = true := by simp; omega
    by_cases h1 : n ≤ 122
    · have b1 : decide ((n : Int) ≤ 122) = true := by simp; omega
      have e1 : IntKind.u8.wrap ((n : Int) - 97) = (n : Int) - 97 := by rw [IntKind.wrap_u8]; omega
      have e2 : IntKind.u8.wrap ((n : Int) - 97 + 65) = (n : Int) - 97 + 65 := by rw [IntKind.wrap_u8]; omega
      have g : ((if 97 ≤ n ∧ n ≤ 122 then n - 32 else n : Nat) : Int) = (n : Int) - 97 + 65 := by rw [if_pos ⟨h0, h1⟩]; omega
      rw [g]
      clear g
      go_enter Tryd.func59, Tryd.ntmps59
      go_wp2
      go_ret
      exact ⟨rfl, rfl⟩
    · have b1 : decide ((n : Int) ≤ 122) = false := by simp; omega
      rw [if_neg (fun h => h1 h.2)]
      go_enter Tryd.func59, Tryd.ntmps59
      go_wp2
      go_ret
      exact ⟨rfl, rfl⟩
  · have b0 : decide (97 ≤ (n : Int)) = false := by simp; omega
    rw [if_neg (fun h => h0 h.1)]
    go_enter Tryd.func59, Tryd.ntmps59
    go_wp2
    go_ret
    exact ⟨rfl, rfl⟩
theorem beqB (t u : ByteArray) : (t == u) = decide (t = u) := by
  obtain ⟨a⟩ := t
  obtain ⟨b⟩ := u
  show (a == b) = _
  by_cases h : a = b
  · subst h; simp
  · rw [beq_eq_false_iff_ne.2 h]; simp [h]
theorem tl_eq (t : ByteArray) (l : List UInt8) : (t.toList == l) = (t == byB l) := by
  have h : t.toList = byL t := by rw [ByteArray.toList_eq]; rfl
  rw [h, beqB]
  by_cases e : byL t = l
  · have : t = byB l := by rw [← e, byB_byL]
    rw [e]; simp [this]
  · rw [beq_eq_false_iff_ne.2 e]
    have : ¬ t = byB l := fun q => e (by rw [q, byL_byB])
    simp [this]
theorem isBracket_c (t : ByteArray) (w : World) : Calls Tryd.prog 41 #[.string t] w fun e w' => e = .returned (.bool (isBr t)) ∧ w' = w := by
  have k0 := tl_eq t [40]
  have k1 := tl_eq t [41]
  unfold isBr
  rw [← k0, ← k1]
  clear k0 k1
  cases hb : (t.toList == [40])
  · go_enter Tryd.func41, Tryd.ntmps41
    go_wp2
    go_ret
    exact ⟨rfl, rfl⟩
  · go_enter Tryd.func41, Tryd.ntmps41
    go_wp2
    go_ret
    exact ⟨rfl, rfl⟩
end Go.Proofs.YtdamhdceajmdfaaDoor
