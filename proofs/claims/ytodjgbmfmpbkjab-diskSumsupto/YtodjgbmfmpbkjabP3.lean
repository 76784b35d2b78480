-- What an Append does to what is told.
import Derived.Test.YtodjgbmfmpbkjabP2
namespace Go.Proofs.Ytodjgbmfmpbkjab
open Go
set_option linter.unusedVariables false
theorem there_mem {d : Dr} {n : Int} (h : there d n = true) : ∃ e ∈ d, (e.2 : Int) = n := by
  unfold there at h
  rw [List.any_eq_true] at h
  obtain ⟨e, he, hn⟩ := h
  exact ⟨e, he, by simpa using hn⟩
theorem szOf_set_same (bs : List Bd) (i : Nat) (b : Bd) (h : i < bs.length) : szOf (bs.set i b) (i + 1) = b.data.size := by
  unfold szOf
  rw [show i + 1 - 1 = i by omega, List.getElem?_set]
  simp [h]
theorem szOf_set_other (bs : List Bd) (i j : Nat) (b : Bd) (h : j - 1 ≠ i) : szOf (bs.set i b) j = szOf bs j := by
  unfold szOf
  rw [List.getElem?_set, if_neg (fun e => h e.symm)]
/-- One body's length turned: the sum of the directory that holds it once. -/
theorem usedIn_set (bs : List Bd) (d : Dr) (i : Nat) (b b' : Bd) (hb : bs[i]? = some b) (hu : (d.map (·.2)).Nodup) (hp : ∀ e ∈ d, 1 ≤ e.2) (hm : ∃ e ∈ d, e.2 = i + 1) : usedIn (bs.set i b') d + b.data.size = usedIn bs d + b'.data.size := by
  have hil : i < bs.length := by
    rcases Nat.lt_or_ge i bs.length with h' | h'
    · exact h'
    · rw [List.getElem?_eq_none h'] at hb; cases hb
  have hsz : szOf bs (i + 1) = b.data.size := by unfold szOf; rw [show i + 1 - 1 = i by omega, hb]
  have none_ : ∀ l : Dr, (∀ e ∈ l, 1 ≤ e.2) → (∀ e ∈ l, e.2 ≠ i + 1) → usedIn (bs.set i b') l = usedIn bs l := by
    intro l h1 h2
    unfold usedIn
    congr 1
    apply List.map_congr_left
    intro e he
    have := h1 e he
    have := h2 e he
    exact szOf_set_other bs i e.2 b' (by omega)
  induction d with
  | nil => obtain ⟨e, he, _⟩ := hm; simp at he
  | cons x r ih =>
    rw [List.map_cons, List.nodup_cons] at hu
    have hcons : ∀ bs : List Bd, usedIn bs (x :: r) = szOf bs x.2 + usedIn bs r := fun bs => by simp [usedIn]
    rw [hcons, hcons]
    by_cases hx : x.2 = i + 1
    · have hr : ∀ e ∈ r, e.2 ≠ i + 1 := fun e he e2 => hu.1 (List.mem_map.2 ⟨e, he, by rw [e2, hx]⟩)
      rw [none_ r (fun e he => hp e (List.mem_cons_of_mem _ he)) hr, hx, szOf_set_same bs i b' hil, hsz]
      omega
    · have hx1 := hp x (by simp)
      rw [szOf_set_other bs i x.2 b' (by omega)]
      have := ih hu.2 (fun e he => hp e (List.mem_cons_of_mem _ he)) (by
        obtain ⟨e, he, h2⟩ := hm
        rcases List.mem_cons.1 he with rfl | he
        · exact absurd h2 hx
        · exact ⟨e, he, h2⟩)
      omega
/-- What is told of a body behind a call that puts another one in its place. -/
theorem put_at {st : St} (hw : Wf st) {n : Int} {b b' : Bd} (h : st.at_ n = some b) : (st.put n b').at_ n = some b' := by
  have ht : there st.now n = true := by
    unfold St.at_ at h
    split at h
    · assumption
    · cases h
  have hb : st.bodies[n.toNat - 1]? = some b := by unfold St.at_ at h; rw [if_pos ht] at h; exact h
  have hl : n.toNat - 1 < st.bodies.length := by
    rcases Nat.lt_or_ge (n.toNat - 1) st.bodies.length with h' | h'
    · exact h'
    · rw [List.getElem?_eq_none h'] at hb; cases hb
  unfold St.at_
  rw [if_pos (show there (st.put n b').now n = true from ht)]
  show (st.bodies.set (n.toNat - 1) b')[n.toNat - 1]? = _
  rw [List.getElem?_set]
  simp [hl]
theorem put_used {st : St} (hw : Wf st) (hd : DW st) {n : Int} {b b' : Bd} (h : st.at_ n = some b) : (st.put n b').used + b.data.size = st.used + b'.data.size := by
  have ht : there st.now n = true := by
    unfold St.at_ at h
    split at h
    · assumption
    · cases h
  have hb : st.bodies[n.toNat - 1]? = some b := by unfold St.at_ at h; rw [if_pos ht] at h; exact h
  obtain ⟨e, he, hn⟩ := there_mem ht
  have hpos : ∀ f ∈ st.now, 1 ≤ f.2 := fun f hf => (hw.led _ (now_mem hw) f hf).1
  have := hpos e he
  exact usedIn_set st.bodies st.now (n.toNat - 1) b b' hb (hd.now hw).unlike hpos ⟨e, he, by omega⟩
end Go.Proofs.Ytodjgbmfmpbkjab
