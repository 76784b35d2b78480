
-- Write beside, make durable, rename over: the states (plain).
import Derived.Test.YtodjgbmfmpbkjaaP5
import Derived.Test.YtodjgbmfmpbkjaaP4
namespace Go.Proofs.Ytodjgbmfmpbkjaa
open Go.RowKit
set_option linter.unusedVariables false
def bOld (old : ByteArray) : Bd := ⟨1, 0, 0, 0, old, old.size⟩
def bNew (fresh : ByteArray) : Bd := ⟨2, 0, 0, 0, fresh, fresh.size⟩
def St.rep3 (c : Nat) (name old temp fresh : ByteArray) : St := ⟨c, [bOld old, bNew fresh], [[(name, 1)], dTwo name temp]⟩
def St.repc (c : Nat) (old fresh : ByteArray) (d : Dr) : St := ⟨c, [bOld old, bNew fresh], [d]⟩
theorem rep_3 (c : Nat) (name old temp fresh : ByteArray) (h : name ≠ temp) : (St.rep2 c name old temp fresh 2).sync 2 = (0, St.rep3 c name old temp fresh) := by
  have hn : (St.rep2 c name old temp fresh 2).now = dTwo name temp := rfl
  have ha : (St.rep2 c name old temp fresh 2).at_ 2 = some ⟨2, 0, 0, 0, fresh, 0⟩ := by
    unfold St.at_
    rw [hn]
    rcases dTwo_or name temp h with e | e <;> rw [e] <;> rfl
  unfold St.sync
  rw [ha]
  rfl
theorem firm_two (old fresh : ByteArray) (y : Nat) : Firm [bOld old, bNew fresh] y := by
  intro b hb
  rcases hy : y - 1 with _ | _ | k
  · rw [hy] at hb; simp at hb; subst hb; rfl
  · rw [hy] at hb; simp at hb; subst hb; rfl
  · rw [hy] at hb; simp at hb
def kept (name temp : ByteArray) (n : Int) : Dr := if n ≤ 0 then [(name, 1)] else if n = 1 then dTwo name temp else [(name, 2)]
theorem rep_crash (c : Nat) (name old temp fresh : ByteArray) (n : Int) (cuts : List Int) : (St.rep4 c name old temp fresh 2 fresh.size).crash n cuts = St.repc c old fresh (kept name temp n) := by
  have hc : (St.rep4 c name old temp fresh 2 fresh.size).cutDir n = kept name temp n := by
    unfold St.cutDir within kept
    have hl : (St.rep4 c name old temp fresh 2 fresh.size).dirs.length = 3 := rfl
    rw [hl]
    by_cases h0 : n ≤ 0
    · rw [if_pos h0]
      by_cases h1 : n < 0
      · rw [if_pos h1]; rfl
      · have : n = 0 := by omega
        subst this; rfl
    · rw [if_neg h0, if_neg (by omega)]
      by_cases h1 : n = 1
      · subst h1; rfl
      · rw [if_neg h1]
        by_cases h2 : ((3 - 1 : Nat) : Int) < n
        · rw [if_pos h2]; rfl
        · have : n = 2 := by omega
          subst this; rfl
  unfold St.crash
  rw [hc]
  have := cutTo_firm cuts (kept name temp n) (St.rep4 c name old temp fresh 2 fresh.size).bodies (fun e _ => firm_two old fresh e.2) (kept name temp n).length
  rw [this]; rfl
theorem repc_DW (c : Nat) (old fresh name : ByteArray) (k : Nat) (hk : 1 ≤ k) (hok : okName name = true) : DW (St.repc c old fresh [(name, k)]) := by
  intro d hd
  have e : (St.repc c old fresh [(name, k)]).dirs = [[(name, k)]] := rfl
  rw [e] at hd
  simp at hd
  subst hd
  exact ⟨by simp, by simp, by simp [hok]⟩
theorem repc_two (c : Nat) (old fresh name temp : ByteArray) (h : name ≠ temp) (h1 : okName name = true) (h2 : okName temp = true) :
    (St.repc c old fresh (dTwo name temp)).find name = ((name, bOld old), (1, 0)) ∧ (St.repc c old fresh (dTwo name temp)).find temp = ((temp, bNew fresh), (2, 0)) ∧ (St.repc c old fresh (dTwo name temp)).read 1 = (old, 0) ∧ (St.repc c old fresh (dTwo name temp)).read 2 = (fresh, 0) ∧ (St.repc c old fresh (dTwo name temp)).names.length = 2 := by
  have hn : (St.repc c old fresh (dTwo name temp)).now = dTwo name temp := rfl
  have l1 : leads (dTwo name temp) name = 1 := by rcases dTwo_or name temp h with e | e <;> rw [e] <;> simp [leads, Ne.symm h]
  have l2 : leads (dTwo name temp) temp = 2 := by rcases dTwo_or name temp h with e | e <;> rw [e] <;> simp [leads, h]
  have t1 : there (dTwo name temp) 1 = true := by rcases dTwo_or name temp h with e | e <;> rw [e] <;> rfl
  have t2 : there (dTwo name temp) 2 = true := by rcases dTwo_or name temp h with e | e <;> rw [e] <;> rfl
  refine ⟨?_, ?_, ?_, ?_, ?_⟩
  · unfold St.find; rw [hn, l1, if_neg (by rw [h1]; decide), if_neg (by decide)]; rfl
  · unfold St.find; rw [hn, l2, if_neg (by rw [h2]; decide), if_neg (by decide)]; rfl
  · unfold St.read St.at_; rw [hn, t1]; rfl
  · unfold St.read St.at_; rw [hn, t2]; rfl
  · unfold St.names; rw [hn]; rcases dTwo_or name temp h with e | e <;> rw [e] <;> rfl
end Go.Proofs.Ytodjgbmfmpbkjaa
