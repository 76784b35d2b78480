
-- What holds of the files that a volume tells.
import Derived.Test.YtodjgbmfmpbkjabG3
import Derived.Test.YtodjgbmfmpbkjabP2
namespace Go.Proofs.Ytodjgbmfmpbkjab
open Go.RowKit
set_option linter.unusedVariables false
structure FileOk (st : St) (k : Nat) (f : Fl) : Prop where
  num : 1 ≤ f.num
  ok : okName f.name = true
  size : f.bd.data.size ≤ 1073741824
  safe : f.bd.safe ≤ f.bd.data.size
  now : st.now[k]? = some (f.name, f.num)
  sum : usedIn st.bodies (st.now.take (k + 1)) = usedIn st.bodies (st.now.take k) + f.bd.data.size
theorem file_ok {st : St} (hw : Wf st) (hd : DW st) {k : Nat} {f : Fl} (h : st.files[k]? = some f) : FileOk st k f := by
  unfold St.files at h
  rw [List.getElem?_map] at h
  cases hn : st.now[k]? with
  | none => rw [hn] at h; cases h
  | some e =>
    rw [hn] at h
    obtain ⟨x, y⟩ := e
    obtain ⟨i, b, rfl, hb, _, _, _, h1, h2⟩ := at_file hw hd hn
    have hf : f = ⟨x, i + 1, b⟩ := by
      cases h
      simp [hb]
    subst hf
    refine ⟨by simp, (hd.now hw).name _ (List.mem_of_getElem? hn), h1, h2, hn, ?_⟩
    rw [usedIn_take _ _ _ _ _ hn]
    unfold szOf
    simp [hb]
theorem file_lt {st : St} (hw : Wf st) (hd : DW st) {j k : Nat} {f g : Fl} (hj : st.files[j]? = some f) (hk : st.files[k]? = some g) (h : j < k) : ltB f.name g.name = true ∧ f.num ≠ g.num := by
  have h1 := (file_ok hw hd hj).now
  have h2 := (file_ok hw hd hk).now
  have hdn := hd.now hw
  obtain ⟨l1, e1⟩ := List.getElem?_eq_some_iff.1 h1
  obtain ⟨l2, e2⟩ := List.getElem?_eq_some_iff.1 h2
  have r := List.pairwise_iff_getElem.1 hdn.rise j k l1 l2 h
  rw [e1, e2] at r
  refine ⟨r, fun hn => ?_⟩
  have hu := List.pairwise_iff_getElem.1 hdn.unlike j k (by simpa using l1) (by simpa using l2) h
  simp only [List.getElem_map, e1, e2] at hu
  exact hu hn
theorem files_len (st : St) : st.files.length = st.now.length := by unfold St.files; simp
theorem used_all (st : St) : usedIn st.bodies (st.now.take st.files.length) = st.used := by rw [files_len, List.take_length]; rfl
/-- A Create that was answered gives the next number, and its name leads to it. -/
theorem create_new {st : St} (hw : Wf st) (hd : DW st) (hm : st.bodies.length < 2097152) (hl : st.dirs.length < 2097152) (a : ByteArray) (m0 m1 m2 m3 : Int) (h : (st.create a m0 m1 m2 m3).1.2 = 0) :
    (st.create a m0 m1 m2 m3).1.1 = st.bodies.length + 1 ∧ (st.create a m0 m1 m2 m3).2.bodies.length = st.bodies.length + 1 ∧ (st.create a m0 m1 m2 m3).2.find a = ((a, ⟨m0, m1, m2, m3, ⟨#[]⟩, 0⟩), (st.bodies.length + 1, 0)) := by
  have hw' := (create_fine hw a m0 m1 m2 m3 (by omega) (by omega)).wf
  have hd' : DW (st.create a m0 m1 m2 m3).2 := step_DW hd hw ⟨1, 0, 0, a, a, m0, m1, m2, m3, .slice none 0 0, []⟩
  unfold St.create at h hw' hd' ⊢
  split at h
  · cases h
  · rename_i h1
    rw [if_neg h1] at hw' hd' ⊢
    split at h
    · cases h
    · rename_i h2
      rw [if_neg h2] at hw' hd' ⊢
      refine ⟨rfl, by simp, ?_⟩
      have hn : ({ st with bodies := st.bodies ++ [⟨m0, m1, m2, m3, ⟨#[]⟩, 0⟩], dirs := st.dirs ++ [with_ st.now a (st.bodies.length + 1)] } : St).now = with_ st.now a (st.bodies.length + 1) := by unfold St.now; simp
      have hmem : (a, st.bodies.length + 1) ∈ with_ st.now a (st.bodies.length + 1) := by
        unfold with_
        exact (ins_perm _ _ _).mem_iff.2 (by simp)
      obtain ⟨k, hk⟩ := List.getElem?_of_mem hmem
      obtain ⟨i, b, hi, hb, hf, _⟩ := at_file hw' hd' (k := k) (by rw [hn]; exact hk)
      obtain rfl : st.bodies.length = i := by omega
      simp at hb
      subst hb
      exact hf
def RowF (w : World) (v : Value) (l : List Fl) : Prop :=
  (l = [] ∧ ∃ ao c, v = .slice ao 0 c) ∨ ∃ b cap, v = .slice (some ⟨b, 0, none⟩) l.length cap ∧ ∀ k f, l[k]? = some f → ∀ j x, f.v[j]? = some x → w.cell? ⟨b, k * 9 + j, none⟩ = some x
theorem flsV_at (l : List Fl) (k : Nat) (f : Fl) (h : l[k]? = some f) (j : Nat) (x : Value) (hx : f.v[j]? = some x) : (flsV l)[k * 9 + j]? = some x := by
  induction l generalizing k with
  | nil => simp at h
  | cons a r ih =>
    have hl : ∀ g : Fl, g.v.length = 9 := fun g => rfl
    have hj : j < 9 := by rw [← hl f]; exact (List.getElem?_eq_some_iff.1 hx).1
    have e : flsV (a :: r) = a.v ++ flsV r := by unfold flsV; rw [List.flatMap_cons]
    rw [e]
    cases k with
    | zero =>
      simp at h; subst h
      rw [List.getElem?_append_left (by rw [hl]; omega)]
      simpa using hx
    | succ k =>
      rw [List.getElem?_append_right (by rw [hl]; omega), hl, show (k + 1) * 9 + j - 9 = k * 9 + j by omega]
      exact ih k (by simpa using h)
theorem RowF.of_own {w : World} {B : Nat} {v : Value} {l : List Fl} {t : TypeId} (h : w.ownsRow B t 9 v l.length (flsV l)) : RowF w v l := by
  rcases h.2 with ⟨rfl, h0⟩ | ⟨g, cap, cur, rfl, _⟩
  · exact .inl ⟨List.eq_nil_of_length_eq_zero h0, _, _, rfl⟩
  · refine .inr ⟨g, cap, rfl, fun k f hk j x hx => ?_⟩
    have := h.cells (g := g) rfl (k * 9 + j) x (flsV_at l k f hk j x hx)
    have e : (⟨g, 0, none⟩ : Addr).add (k * 9 + j) = ⟨g, k * 9 + j, none⟩ := by
      unfold Addr.add
      split
      · simp_all
      · simp
    rw [e] at this; exact this
theorem RowF.form {w : World} {v : Value} {l : List Fl} (h : RowF w v l) : ∃ ao cap, v = .slice ao l.length cap := by
  rcases h with ⟨rfl, ao, c, rfl⟩ | ⟨b, cap, rfl, _⟩
  · exact ⟨ao, c, rfl⟩
  · exact ⟨_, _, rfl⟩
end Go.Proofs.Ytodjgbmfmpbkjab
