-- A volume whose files are all durable (plain).
import Derived.Test.YtodjgbmfmpbkjaaP3
namespace Go.Proofs.Ytodjgbmfmpbkjaa
set_option linter.unusedVariables false
/-- All that is told of this name's body is durable. -/
def Firm (bs : List Bd) (y : Nat) : Prop := ∀ b, bs[y - 1]? = some b → b.safe = b.data.size
theorem cutB_firm (cuts : List Int) (j : Nat) (x : Bd) (h : x.safe = x.data.size) : cutB cuts j x = x := by
  have h1 : cutOf cuts j (x.data.size - x.safe) = 0 := by have := cutOf_le cuts j (x.data.size - x.safe); omega
  have h2 : x.data.extract 0 (x.safe + 0) = x.data := by rw [h, Nat.add_zero]; exact ByteArray.extract_zero_size
  unfold cutB
  rw [h1, h2, ← h]
theorem cutTo_firm (cuts : List Int) (d : Dr) (bs : List Bd) (h : ∀ e ∈ d, Firm bs e.2) (k : Nat) : cutTo cuts d bs k = bs := by
  induction k with
  | zero => rfl
  | succ k ih =>
    simp only [cutTo]
    split
    · rename_i e he
      rw [ih]
      split
      · rename_i x hx
        rw [cutB_firm cuts k x (h e (List.mem_of_getElem? he) x hx)]
        obtain ⟨hlt, he2⟩ := List.getElem?_eq_some_iff.1 hx
        rw [← he2]
        exact List.set_getElem_self hlt
      · rfl
    · exact ih
theorem crash_firm (st : St) (n : Int) (cuts : List Int) (d : Dr) (hd : st.dirs = [d]) (h : ∀ e ∈ d, Firm st.bodies e.2) : st.crash n cuts = st := by
  have hc : st.cutDir n = d := by
    unfold St.cutDir within
    rw [hd]
    simp only [List.length_singleton]
    split
    · rfl
    · split
      · rfl
      · have : n = 0 := by omega
        subst this; rfl
  unfold St.crash
  rw [hc, cutTo_firm cuts d st.bodies h, ← hd]
end Go.Proofs.Ytodjgbmfmpbkjaa
