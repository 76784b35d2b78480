
-- Plain: words of bytes without quotes and escapes.
import Derived.Test.YtjpoifoejbabiabDoorLB
namespace Go.Proofs.YtjpoifoejbabiabDoor
open Go
set_option linter.unusedVariables false
set_option maxRecDepth 100000
set_option linter.unusedSimpArgs false
/-- the words, from a word that is open or none -/
def cw : List UInt8 → Bool → List UInt8 → List ByteArray
  | [], inn, wd => endW inn wd []
  | c :: r, inn, wd => if partsB c then endW inn wd [] ++ cw r false [] else cw r true (wd ++ [c])
theorem endW_app (inn : Bool) (wd : List UInt8) (ws : List ByteArray) : endW inn wd ws = ws ++ endW inn wd [] := by unfold endW; cases inn <;> simp
def clean (l : List UInt8) : Prop := ∀ c ∈ l, c ≠ 92 ∧ c ≠ 34
theorem scan_cw (l : List UInt8) (hl : clean l) : ∀ (pos : Nat) (inn : Bool) (wd : List UInt8) (ws : List ByteArray), scanL l pos none inn wd ws = .inr (ws ++ cw l inn wd) := by
  induction l with
  | nil => intro pos inn wd ws; rw [scan_nil]; simp only [cw]; rw [endW_app]
  | cons c r ih =>
    intro pos inn wd ws
    obtain ⟨h1, h2⟩ := hl c (by simp)
    have ihr := ih (fun d hd => hl d (by simp [hd]))
    by_cases hp : partsB c = true
    · rw [scan_part r pos inn wd ws hp, ihr, endW_app inn wd ws, List.append_assoc]
      simp only [cw, if_pos hp]
    · rw [scan_byte r pos none inn wd ws (fun h => hp h.1) h1 h2, ihr]
      simp only [cw, if_neg hp]
theorem scan_cwK (l rest : List UInt8) (hl : clean l) (x : UInt8) (hx : partsB x = true) : ∀ (pos : Nat) (inn : Bool) (wd : List UInt8) (ws : List ByteArray), scanL (l ++ x :: rest) pos none inn wd ws = scanL rest (pos + l.length + 1) none false [] (ws ++ cw l inn wd) := by
  induction l with
  | nil => intro pos inn wd ws; rw [List.nil_append, scan_part _ _ _ _ _ hx]; simp only [cw]; rw [endW_app]; rfl
  | cons c r ih =>
    intro pos inn wd ws
    obtain ⟨h1, h2⟩ := hl c (by simp)
    have ihr := ih (fun d hd => hl d (by simp [hd]))
    have el : pos + (c :: r).length + 1 = pos + 1 + r.length + 1 := by rw [List.length_cons]; omega
    rw [List.cons_append, el]
    by_cases hp : partsB c = true
    · rw [scan_part _ pos inn wd ws hp, ihr, endW_app inn wd ws, List.append_assoc]
      simp only [cw, if_pos hp]
    · rw [scan_byte _ pos none inn wd ws (fun h => hp h.1) h1 h2, ihr]
      simp only [cw, if_neg hp]
theorem cw_app (l rest : List UInt8) (x : UInt8) (hx : partsB x = true) : ∀ (inn : Bool) (wd : List UInt8), cw (l ++ x :: rest) inn wd = cw l inn wd ++ cw rest false [] := by
  induction l with
  | nil => intro inn wd; simp only [List.nil_append, cw, if_pos hx]
  | cons c r ih =>
    intro inn wd
    simp only [List.cons_append, cw]
    by_cases hp : partsB c = true
    · rw [if_pos hp, if_pos hp, ih, List.append_assoc]
    · rw [if_neg hp, if_neg hp, ih]
theorem cw_bare (l : List UInt8) (hl : ∀ c ∈ l, partsB c = false) : ∀ (wd : List UInt8), cw l true wd = [strB (wd ++ l)] := by
  induction l with
  | nil => intro wd; simp [cw, endW]
  | cons c r ih =>
    intro wd
    have hc := hl c (by simp)
    simp only [cw]
    rw [if_neg (by rw [hc]; simp), ih (fun d hd => hl d (by simp [hd]))]
    simp
theorem cw_one {l : List UInt8} (hne : l ≠ []) (hl : ∀ c ∈ l, partsB c = false) : cw l false [] = [strB l] := by
  cases l with
  | nil => exact absurd rfl hne
  | cons c r =>
    have hc := hl c (by simp)
    simp only [cw]
    rw [if_neg (by rw [hc]; simp), cw_bare r (fun d hd => hl d (by simp [hd]))]
    simp
theorem cw_blanks (k : Nat) (l : List UInt8) : cw (List.replicate k 32 ++ l) false [] = cw l false [] := by
  induction k with
  | zero => rfl
  | succ k ih =>
    rw [List.replicate_succ, List.cons_append]
    simp only [cw]
    rw [if_pos (by decide), ih]
    simp [endW]
end Go.Proofs.YtjpoifoejbabiabDoor
