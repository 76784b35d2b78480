
-- What is in is what was pulled in, plainly.
import Derived.Test.YtnnpdomfkedhpaaRH
namespace Go.Proofs.Ytnnpdomfkedhpaa
set_option linter.unusedVariables false
set_option maxRecDepth 100000
/-- how far the law's own search has come -/
structure Ra (O : List Ob) (kf : Nat → Int) (P : List (Int × Int)) (roots : List ByteArray) (st : Rst) : Prop where
  l : st.1.length = O.length
  m : ∀ n, n ∈ st.2 ↔ n ∈ roots ∨ ∃ (i : Nat) (o : Ob), O[i]? = some o ∧ st.1.getD i false = true ∧ n ∈ o.nd
  s : ∀ i, st.1.getD i false = true → plc kf i ∈ P
section
variable {O : List Ob} {kf : Nat → Int} {Ls : List (Int × Lb)} {roots : List ByteArray}
theorem ra_start (P : List (Int × Int)) : Ra O kf P roots (List.replicate O.length false, roots) := by
  have hf : ∀ i, (List.replicate O.length false).getD i false = false := fun i => by
    rw [List.getD_eq_getElem?_getD, List.getElem?_replicate]
    split <;> rfl
  refine ⟨by simp, fun n => ⟨fun h => .inl h, fun h => ?_⟩, fun i h => ?_⟩
  · rcases h with h | ⟨i, o, _, h, _⟩
    · exact h
    · rw [hf] at h; cases h
  · rw [hf] at h; cases h
theorem ra_asked (hS : Shv O kf Ls) {st : Rst} (h : Ra O kf (groupN Ls ⟨[], roots, []⟩).p roots st) : ∀ n ∈ st.2, n ∈ roots ++ (groupN Ls ⟨[], roots, []⟩).p.flatMap (ndO O) := fun n hn => by
  rcases (h.m n).1 hn with q | ⟨i, o, ho, hi, hno⟩
  · exact List.mem_append.2 (.inl q)
  · exact List.mem_append.2 (.inr (List.mem_flatMap.2 ⟨_, h.s i hi, by rw [ndO_plc ho]; exact hno⟩))
theorem ra_step (hS : Shv O kf Ls) {st : Rst} (h : Ra O kf (groupN Ls ⟨[], roots, []⟩).p roots st) (i : Nat) : Ra O kf (groupN Ls ⟨[], roots, []⟩).p roots (rstep O st i) := by
  unfold rstep
  cases ho : O[i]? with
  | none => exact h
  | some o =>
    simp only
    split
    · rename_i hc
      simp only [Bool.and_eq_true, Bool.not_eq_true'] at hc
      obtain ⟨hf, hm⟩ := hc
      have hi : i < st.1.length := by rw [h.l]; exact (List.getElem?_eq_some_iff.1 ho).1
      have hget : ∀ j, (st.1.set i true).getD j false = true ↔ j = i ∨ st.1.getD j false = true := fun j => by
        rw [List.getD_eq_getElem?_getD, List.getD_eq_getElem?_getD]
        by_cases hj : j = i
        · subst hj
          rw [List.getElem?_set_self hi]
          simp
        · rw [List.getElem?_set_ne (fun e => hj e.symm)]
          simp [hj]
      refine ⟨by rw [List.length_set]; exact h.l, fun n => ?_, fun j hj => ?_⟩
      · show n ∈ st.2 ++ o.nd ↔ _
        rw [List.mem_append, h.m n]
        constructor
        · rintro ((q | ⟨j, o', h1, h2, h3⟩) | q)
          · exact .inl q
          · exact .inr ⟨j, o', h1, (hget j).2 (.inr h2), h3⟩
          · exact .inr ⟨i, o, ho, (hget i).2 (.inl rfl), q⟩
        · rintro (q | ⟨j, o', h1, h2, h3⟩)
          · exact .inl (.inl q)
          · rcases (hget j).1 h2 with e | e
            · subst e
              rw [ho] at h1
              injection h1 with h1
              subst h1
              exact .inr h3
            · exact .inl (.inr ⟨j, o', h1, e, h3⟩)
      · rcases (hget j).1 hj with e | e
        · subst e
          obtain ⟨n, hn1, hn2⟩ := meetsB_iff.1 hm
          exact rc_closed hS ho hn1 (ra_asked hS h n hn2)
        · exact h.s j e
    · exact h
theorem ra_round (hS : Shv O kf Ls) {st : Rst} (h : Ra O kf (groupN Ls ⟨[], roots, []⟩).p roots st) : Ra O kf (groupN Ls ⟨[], roots, []⟩).p roots (rround O st) := by
  unfold rround
  generalize List.range O.length = l
  revert st
  induction l with
  | nil => intro st h; exact h
  | cons x r ih => intro st h; rw [List.foldl_cons]; exact ih (ra_step hS h x)
theorem ra_iter (hS : Shv O kf Ls) (n : Nat) : ∀ st, Ra O kf (groupN Ls ⟨[], roots, []⟩).p roots st → Ra O kf (groupN Ls ⟨[], roots, []⟩).p roots (riter O n st) := by
  induction n with
  | zero => intro st h; exact h
  | succ n ih => intro st h; exact ih _ (ra_round hS h)
/-- what the law's own search finds -/
def rall (O : List Ob) (roots : List ByteArray) : Rst := riter O O.length (List.replicate O.length false, roots)
theorem ra_all (hS : Shv O kf Ls) : Ra O kf (groupN Ls ⟨[], roots, []⟩).p roots (rall O roots) := ra_iter hS _ _ (ra_start _)
theorem nd_ok (hS : Shv O kf Ls) : ∀ x ∈ Ls, ∀ a i, idx x.2.a a = some i → ndO O (x.1, a) = x.2.nd.getD i [] := fun x hx a j hj => by
  obtain ⟨i, o, ho, hp, _, hnd⟩ := hS.ix x hx a j hj
  rw [hp, ndO_plc ho, hnd]
/-- what was pulled in is in -/
theorem in_of_pulled (hS : Shv O kf Ls) {i : Nat} {o : Ob} (ho : O[i]? = some o) (hp : plc kf i ∈ (groupN Ls ⟨[], roots, []⟩).p) : (rall O roots).1.getD i false = true := by
  obtain ⟨q, hq⟩ := cld_group (s := ⟨[], roots, []⟩) (nd_ok hS)
  have hR := ra_all (roots := roots) hS
  have hpq : (groupN Ls ⟨[], roots, []⟩).p = q := by have := hq.p; simpa using this
  have key : ∀ (k : Nat) (x : Int × Int), q[k]? = some x → ∀ (i : Nat) (o : Ob), O[i]? = some o → x = plc kf i → (rall O roots).1.getD i false = true := by
    intro k
    induction k using Nat.strongRecOn with
    | ind k ih =>
      intro x hx i o ho he
      subst he
      obtain ⟨_, L, j, n, hL, hj, hne, hna⟩ := hq.e k _ hx
      obtain ⟨i', o', ho', hn', hpl⟩ := hS.en _ hL _ hne
      have : i' = i := plc_inj (kf := kf) hpl.symm
      subst this
      have hask : n ∈ (rall O roots).2 := by
        rw [hR.m n]
        rcases List.mem_append.1 hna with z | z
        · exact .inl z
        · obtain ⟨y, hy, hny⟩ := List.mem_flatMap.1 z
          obtain ⟨k', hk'⟩ := List.getElem?_of_mem hy
          have hlt : k' < k := by
            have := (List.getElem?_eq_some_iff.1 hk').1
            rw [List.length_take] at this
            omega
          rw [List.getElem?_take_of_lt hlt] at hk'
          obtain ⟨i2, o2, ho2, rfl⟩ := (rc_group (roots := roots) hS).p y (by rw [hpq]; exact List.mem_of_getElem? hk')
          rw [ndO_plc ho2] at hny
          exact .inr ⟨i2, o2, ho2, ih k' hlt _ hk' i2 o2 ho2 rfl, hny⟩
      exact riter_closed O roots i' o' ho' (meetsB_iff.2 ⟨n, hn', hask⟩)
  rw [hpq] at hp
  obtain ⟨k, hk⟩ := List.getElem?_of_mem hp
  exact key k _ hk i o ho rfl
theorem in_iff (hS : Shv O kf Ls) {i : Nat} {o : Ob} (ho : O[i]? = some o) : (rall O roots).1.getD i false = isIn (groupN Ls ⟨[], roots, []⟩).p (plc kf i) := by
  rw [Bool.eq_iff_iff, isIn_iff]
  exact ⟨(ra_all hS).s i, in_of_pulled hS ho⟩
/-- the numbers of those that are in -/
def insN (O : List Ob) (roots : List ByteArray) : List Nat := (List.range O.length).filter fun i => (rall O roots).1.getD i false
theorem pulled_perm (hS : Shv O kf Ls) : (groupN Ls ⟨[], roots, []⟩).p.Perm ((insN O roots).map (plc kf)) := by
  have h := rc_group (roots := roots) hS
  refine (List.perm_ext_iff_of_nodup h.u ?_).2 fun y => ⟨fun hy => ?_, fun hy => ?_⟩
  · rw [List.nodup_iff_pairwise_ne]
    refine List.Pairwise.map (R := fun a b => a ≠ b) _ (fun a b hab e => hab (plc_inj e)) ?_
    exact List.Pairwise.filter _ (List.nodup_iff_pairwise_ne.1 List.nodup_range)
  · obtain ⟨i, o, ho, rfl⟩ := h.p y hy
    refine List.mem_map.2 ⟨i, List.mem_filter.2 ⟨List.mem_range.2 (List.getElem?_eq_some_iff.1 ho).1, ?_⟩, rfl⟩
    exact in_of_pulled hS ho hy
  · obtain ⟨i, hi, rfl⟩ := List.mem_map.1 hy
    exact (ra_all hS).s i (List.mem_filter.1 hi).2
theorem pulled_len (hS : Shv O kf Ls) : (groupN Ls ⟨[], roots, []⟩).p.length = (insN O roots).length := by
  rw [(pulled_perm hS).length_eq, List.length_map]
/-- what those that are in define, in their order -/
def insD (O : List Ob) (roots : List ByteArray) : List ByteArray := (insN O roots).flatMap fun i => match O[i]? with
  | some o => o.df
  | none => []
theorem insD_eq (kf : Nat → Int) : insD O roots = ((insN O roots).map (plc kf)).flatMap (dfO O) := by
  unfold insD
  rw [List.flatMap_map]
  apply congrArg (fun f => (insN O roots).flatMap f)
  funext i
  show _ = dfO O (plc kf i)
  unfold dfO
  rw [obAt_plc]
  cases O[i]? <;> rfl
theorem defined_perm (hS : Shv O kf Ls) : (groupN Ls ⟨[], roots, []⟩).d.Perm (insD O roots) := by
  rw [(rc_group (roots := roots) hS).d, insD_eq kf]
  exact (pulled_perm hS).flatMap_right _
/-- all that is asked of a link -/
structure Reached (O : List Ob) (kf : Nat → Int) (roots : List ByteArray) (x : Lk) : Prop where
  i : ∀ i, i < O.length → isIn x.p (plc kf i) = (rall O roots).1.getD i false
  n : x.p.length = (insN O roots).length
  dl : x.d.length = (insD O roots).length
  d : ∀ n ∈ insD O roots, n ∈ x.d
  o : ∀ n ∈ (rall O roots).2, isIn (insD O roots) n ≠ isIn x.w n
  w : ∀ n ∈ x.w, n ∈ (rall O roots).2
theorem reached_ok (hS : Shv O kf Ls) : Reached O kf roots (groupN Ls ⟨[], roots, []⟩) := by
  have h := rc_group (roots := roots) hS
  have hp := defined_perm (roots := roots) hS
  have hR := ra_all (roots := roots) hS
  refine ⟨fun i hi => (in_iff hS (List.getElem?_eq_getElem hi)).symm, pulled_len hS, hp.length_eq, fun n hn => hp.mem_iff.2 hn, fun n hn => ?_, fun n hn => ?_⟩
  · have hb := h.b n (ra_asked hS hR n hn)
    have hd : isIn (insD O roots) n = isIn (groupN Ls ⟨[], roots, []⟩).d n := by
      rw [Bool.eq_iff_iff, isIn_iff, isIn_iff]
      exact hp.symm.mem_iff
    rw [hd]
    intro e
    by_cases hin : n ∈ (groupN Ls ⟨[], roots, []⟩).d
    · rw [isIn_iff.2 hin] at e
      exact h.a n (isIn_iff.1 e.symm) hin
    · rcases hb with q | q
      · exact hin q
      · rw [isIn_no.2 hin, isIn_iff.2 q] at e
        cases e
  · obtain ⟨q, hq⟩ := cld_group (s := ⟨[], roots, []⟩) (nd_ok hS)
    have hpq : (groupN Ls ⟨[], roots, []⟩).p = q := by have := hq.p; simpa using this
    rw [hR.m n]
    rcases List.mem_append.1 (hq.w n hn) with z | z
    · exact .inl z
    · obtain ⟨y, hy, hny⟩ := List.mem_flatMap.1 z
      rw [← hpq] at hy
      obtain ⟨i, o, ho, rfl⟩ := h.p y hy
      rw [ndO_plc ho] at hny
      exact .inr ⟨i, o, ho, in_of_pulled hS ho hy, hny⟩
end
end Go.Proofs.Ytnnpdomfkedhpaa
