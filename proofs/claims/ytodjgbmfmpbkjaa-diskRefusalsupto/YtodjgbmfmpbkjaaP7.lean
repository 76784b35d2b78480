
-- All files made durable, one by one (plain).
import Derived.Test.YtodjgbmfmpbkjaaG4
import Derived.Test.YtodjgbmfmpbkjaaP4
namespace Go.Proofs.Ytodjgbmfmpbkjaa
open Go.RowKit
set_option linter.unusedVariables false
def firmB (b : Bd) : Bd := { b with safe := b.data.size }
def firmF (f : Fl) : Fl := { f with bd := firmB f.bd }
theorem firmB_two (b : Bd) : firmB (firmB b) = firmB b := rfl
/-- s is st with the bytes of the first k files made durable. -/
structure Sy (st s : St) (k : Nat) : Prop where
  dirs : s.dirs = st.dirs
  len : s.bodies.length = st.bodies.length
  body : ∀ (j : Nat) (b : Bd), st.bodies[j]? = some b → s.bodies[j]? = some b ∨ s.bodies[j]? = some (firmB b)
  firm : ∀ (i : Nat) (x : ByteArray) (y : Nat), i < k → st.now[i]? = some (x, y) → ∀ b, st.bodies[y - 1]? = some b → s.bodies[y - 1]? = some (firmB b)
theorem Sy.refl (st : St) : Sy st st 0 := ⟨rfl, rfl, fun j b h => .inl h, fun i x y h => absurd h (Nat.not_lt_zero _)⟩
theorem Sy.now {st s : St} {k : Nat} (h : Sy st s k) : s.now = st.now := by unfold St.now; rw [h.dirs]
theorem Sy.next {st s : St} {k : Nat} (h : Sy st s k) (hw : Wf st) {x : ByteArray} {y : Nat} (hk : st.now[k]? = some (x, y)) : (s.sync y).1 = 0 ∧ Sy st (s.sync y).2 (k + 1) := by
  obtain ⟨i, b, rfl, hb⟩ := led_body hw hk
  have ht : there s.now (((i + 1 : Nat) : Int)) = true := by
    rw [h.now]
    unfold there
    rw [List.any_eq_true]
    exact ⟨_, List.mem_of_getElem? hk, by simp⟩
  obtain ⟨b', hb', hf⟩ : ∃ b', s.bodies[i]? = some b' ∧ firmB b' = firmB b := by
    rcases h.body i b hb with h | h
    · exact ⟨_, h, rfl⟩
    · exact ⟨_, h, rfl⟩
  have ha : s.at_ ((i + 1 : Nat) : Int) = some b' := by
    have := at_some (st := s) (i := i) (b := b') (by simpa using ht) hb'
    simpa using this
  have hs : s.sync ((i + 1 : Nat) : Int) = (0, s.put ((i + 1 : Nat) : Int) (firmB b')) := by unfold St.sync; rw [ha]; rfl
  have hbs : (s.put ((i + 1 : Nat) : Int) (firmB b')).bodies = s.bodies.set i (firmB b) := by
    unfold St.put
    rw [hf]
    simp
  rw [hs]
  refine ⟨rfl, h.dirs, by rw [hbs, List.length_set]; exact h.len, fun j c hc => ?_, fun j x' y' hj hn c hc => ?_⟩
  · rw [hbs, List.getElem?_set]
    split
    · rename_i e; subst e
      rw [if_pos (List.getElem?_eq_some_iff.1 hb').1]
      rw [hb] at hc; cases hc; exact .inr rfl
    · exact h.body j c hc
  · rw [hbs, List.getElem?_set]
    split
    · rename_i e
      rw [if_pos (by rw [h.len]; exact (List.getElem?_eq_some_iff.1 hb).1)]
      rw [← e] at hc; rw [hb] at hc; cases hc; rfl
    · rename_i e
      rcases Nat.lt_or_ge j k with h' | h'
      · exact h.firm j x' y' h' hn c hc
      · have : j = k := by omega
        subst this
        rw [hk] at hn; cases hn
        exact absurd (by simp) e
theorem Sy.files {st s : St} (h : Sy st s st.now.length) (hw : Wf st) : s.files = st.files.map firmF := by
  unfold St.files
  rw [h.now, List.map_map]
  apply List.map_congr_left
  rintro ⟨x, y⟩ he
  obtain ⟨i, hi⟩ := List.getElem?_of_mem he
  obtain ⟨j, b, rfl, hb⟩ := led_body hw hi
  have := h.firm i x (j + 1) (List.getElem?_eq_some_iff.1 hi).1 hi b (by simpa using hb)
  simp only [Function.comp]
  rw [this]
  have hb' : st.bodies[j + 1 - 1]? = some b := by simpa using hb
  rw [hb']; rfl
theorem Sy.crash {st s : St} (h : Sy st s st.now.length) (hw : Wf st) (n : Int) (cuts : List Int) : s.syncDir.crash n cuts = s.syncDir := by
  refine crash_firm s.syncDir n cuts s.now rfl fun e he b hb => ?_
  rw [h.now] at he
  obtain ⟨x, y⟩ := e
  obtain ⟨i, hi⟩ := List.getElem?_of_mem he
  obtain ⟨j, c, rfl, hc⟩ := led_body hw hi
  have h1 := h.firm i x (j + 1) (List.getElem?_eq_some_iff.1 hi).1 hi c (by simpa using hc)
  have h2 : s.bodies[j + 1 - 1]? = some b := hb
  rw [h1] at h2; cases h2; rfl
theorem syncDir_files (s : St) : s.syncDir.files = s.files := rfl
theorem flsV_append (a b : List Fl) : flsV (a ++ b) = flsV a ++ flsV b := by simp [flsV]
theorem flsV_len (l : List Fl) : (flsV l).length = l.length * 9 := by
  induction l with
  | nil => rfl
  | cons a r ih =>
    have e : flsV (a :: r) = a.v ++ flsV r := by unfold flsV; rw [List.flatMap_cons]
    rw [e, List.length_append, ih, List.length_cons]
    show 9 + _ = _
    omega
/-- The first k files' loose bytes set to 0. -/
def tight (k : Nat) (l : List Fl) : List Fl := (l.take k).map firmF ++ l.drop k
theorem tight_len (k : Nat) (l : List Fl) : (tight k l).length = l.length := by unfold tight; simp; omega
theorem tight_0 (l : List Fl) : tight 0 l = l := by unfold tight; simp
theorem tight_all (l : List Fl) : tight l.length l = l.map firmF := by unfold tight; simp
theorem tight_at (k : Nat) (l : List Fl) (f : Fl) (h : l[k]? = some f) : (tight k l)[k]? = some f := by
  have hk := (List.getElem?_eq_some_iff.1 h).1
  unfold tight
  rw [List.getElem?_append_right (by simp; omega)]
  simp only [List.length_map, List.length_take]
  rw [Nat.min_eq_left (by omega), Nat.sub_self, List.drop_eq_getElem_cons hk]
  rw [List.getElem?_eq_getElem hk] at h
  simp [Option.some.inj h]
theorem tight_set (k : Nat) (l : List Fl) (f : Fl) (h : l[k]? = some f) : (flsV (tight k l)).set (k * 9 + 8) (.int .i64 0) = flsV (tight (k + 1) l) := by
  have hk := (List.getElem?_eq_some_iff.1 h).1
  have hf : l[k] = f := by rw [List.getElem?_eq_getElem hk] at h; exact Option.some.inj h
  have hl : (flsV ((l.take k).map firmF)).length = k * 9 := by rw [flsV_len]; simp; omega
  have e2 : tight (k + 1) l = (l.take k).map firmF ++ (firmF f :: l.drop (k + 1)) := by
    unfold tight
    rw [List.take_add_one, h, List.map_append, List.append_assoc]; rfl
  have e1 : tight k l = (l.take k).map firmF ++ (f :: l.drop (k + 1)) := by
    unfold tight
    rw [List.drop_eq_getElem_cons hk, hf]
  rw [e1, e2, flsV_append, flsV_append, List.set_append_right _ _ (by omega), hl, Nat.add_sub_cancel_left]
  congr 1
  have c1 : ∀ (g : Fl) (r : List Fl), flsV (g :: r) = g.v ++ flsV r := fun g r => by unfold flsV; rw [List.flatMap_cons]
  rw [c1, c1]
  have c2 : (firmF f).v = f.v.set 8 (.int .i64 0) := by simp [Fl.v, firmF, firmB]
  rw [c2, List.set_append_left _ _ (by show 8 < 9; omega)]
end Go.Proofs.Ytodjgbmfmpbkjaa
