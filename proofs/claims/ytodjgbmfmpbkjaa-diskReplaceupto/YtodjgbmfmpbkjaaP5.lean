-- Write beside, rename over: the states (plain).
import Derived.Test.YtodjgbmfmpbkjaaG7
namespace Go.Proofs.Ytodjgbmfmpbkjaa
open Go.RowKit
set_option linter.unusedVariables false
def dTwo (name temp : ByteArray) : Dr := with_ [(name, 1)] temp 2
def St.rep1 (c : Nat) (name old temp : ByteArray) (m : Int) : St := ⟨c, [⟨1, 0, 0, 0, old, old.size⟩, ⟨m, 0, 0, 0, ⟨#[]⟩, 0⟩], [[(name, 1)], dTwo name temp]⟩
def St.rep2 (c : Nat) (name old temp fresh : ByteArray) (m : Int) : St := ⟨c, [⟨1, 0, 0, 0, old, old.size⟩, ⟨m, 0, 0, 0, fresh, 0⟩], [[(name, 1)], dTwo name temp]⟩
def St.rep4 (c : Nat) (name old temp fresh : ByteArray) (m : Int) (s : Nat) : St := ⟨c, [⟨1, 0, 0, 0, old, old.size⟩, ⟨m, 0, 0, 0, fresh, s⟩], [[(name, 1)], dTwo name temp, [(name, 2)]]⟩
theorem dTwo_or (name temp : ByteArray) (h : name ≠ temp) : dTwo name temp = [(temp, 2), (name, 1)] ∨ dTwo name temp = [(name, 1), (temp, 2)] := by
  have hw : without [(name, 1)] temp = [(name, 1)] := by unfold without; simp [h]
  unfold dTwo with_
  rw [hw]
  unfold ins
  split
  · left; rfl
  · right; rfl
theorem rep_1 (c : Nat) (name old temp : ByteArray) (m : Int) (h : name ≠ temp) (hok : okName temp = true) : (St.set4 c name old).create temp m 0 0 0 = ((2, 0), St.rep1 c name old temp m) := by
  unfold St.create
  rw [if_neg (by rw [hok]; decide), if_neg (by
    have : (St.set4 c name old).now = [(name, 1)] := rfl
    rw [this]; simp)]
  rfl
theorem rep_2 (name old temp fresh : ByteArray) (m : Int) (h : name ≠ temp) : (St.rep1 (old.size + fresh.size) name old temp m).append 2 fresh = (0, St.rep2 (old.size + fresh.size) name old temp fresh m) := by
  have hn : (St.rep1 (old.size + fresh.size) name old temp m).now = dTwo name temp := rfl
  have ha : (St.rep1 (old.size + fresh.size) name old temp m).at_ 2 = some ⟨m, 0, 0, 0, ⟨#[]⟩, 0⟩ := by
    unfold St.at_
    rw [hn]
    rcases dTwo_or name temp h with e | e <;> rw [e] <;> rfl
  have hu : (St.rep1 (old.size + fresh.size) name old temp m).used = old.size := by
    unfold St.used
    rw [hn]
    rcases dTwo_or name temp h with e | e <;> rw [e] <;> simp [usedIn, szOf, St.rep1] <;> rfl
  unfold St.append
  rw [ha]
  simp only
  rw [if_neg (by rw [hu]; show ¬ (_ ∧ old.size + fresh.size < _); omega), empty_app]
  rfl
theorem rep_4 (c : Nat) (name old temp fresh : ByteArray) (m : Int) (s : Nat) (st : St) (hst : st = ⟨c, [⟨1, 0, 0, 0, old, old.size⟩, ⟨m, 0, 0, 0, fresh, s⟩], [[(name, 1)], dTwo name temp]⟩) (h : name ≠ temp) (h1 : okName name = true) (h2 : okName temp = true) : st.rename temp name = (0, St.rep4 c name old temp fresh m s) := by
  subst hst
  have hn : (⟨c, [⟨1, 0, 0, 0, old, old.size⟩, ⟨m, 0, 0, 0, fresh, s⟩], [[(name, 1)], dTwo name temp]⟩ : St).now = dTwo name temp := rfl
  have hl : leads (dTwo name temp) temp = 2 := by
    rcases dTwo_or name temp h with e | e <;> rw [e] <;> simp [leads, h]
  have hx : with_ (without (dTwo name temp) temp) name 2 = [(name, 2)] := by
    rcases dTwo_or name temp h with e | e <;> rw [e] <;> simp [with_, without, ins, h]
  unfold St.rename
  rw [hn, if_neg (by rw [h1, h2]; simp), hl, if_neg (by decide), if_neg (Ne.symm h), hx]
  rfl
def St.torn (c : Nat) (name old temp fresh : ByteArray) (m keep : Int) : St := (St.rep4 c name old temp fresh m 0).crash 2 [keep]
theorem torn_files (c : Nat) (name old temp fresh : ByteArray) (m keep : Int) : (St.torn c name old temp fresh m keep).files = [⟨name, 2, cutB [keep] 0 ⟨m, 0, 0, 0, fresh, 0⟩⟩] := rfl
theorem torn_data (fresh : ByteArray) (m keep : Int) : (cutB [keep] 0 ⟨m, 0, 0, 0, fresh, 0⟩).data = fresh.extract 0 (within keep 0 fresh.size).toNat := by
  simp [cutB, cutOf]
end Go.Proofs.Ytodjgbmfmpbkjaa
