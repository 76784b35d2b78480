
-- Plain: what stands behind Insert, by counting.
import Derived.Test.YtaaagdmhokgcjaaI4
import Derived.Test.YtaaagdmhokgcjaaPC
namespace Go.Proofs.Ytaaagdmhokgcjaa
set_option linter.unusedVariables false
set_option maxRecDepth 100000
set_option linter.unusedSimpArgs false
theorem addF_none {ms : List Mx} {x : Mx} (h : nthO (nms ms) x.n 0 = none) : addL ms x false = ms ++ [x] ∧ addW ms x false = 97 := addL_none h
theorem addF_some {ms : List Mx} {x : Mx} {i : Nat} (h : nthO (nms ms) x.n 0 = some i) : addL ms x false = ms.set i x ∧ addW ms x false = 114 := by
  unfold addL addW; simp only [h]; simp
theorem nthO_cnt0 {N : List ByteArray} {q : ByteArray} : nthO N q 0 = none ↔ cnt N q = 0 := by
  constructor
  · intro h
    rcases Nat.eq_zero_or_pos (cnt N q) with e | e
    · exact e
    · obtain ⟨j, hj⟩ := nthO_some_iff.2 e; rw [h] at hj; cases hj
  · intro h
    cases hn : nthO N q 0 with
    | none => rfl
    | some j => have := nthO_some_iff.1 ⟨j, hn⟩; omega
theorem cnt_appC (a b : List ByteArray) (q : ByteArray) : cnt (a ++ b) q = cnt a q + cnt b q := by unfold cnt; exact List.countP_append
/-- the names behind the list's own are those that were added -/
theorem nms_take (L M : List Mx) (u : Bool) : ∀ k, (nms (insL L M false k)).take L.length = nms L
  | 0 => by rw [List.take_of_length_le (by rw [List.length_map]; exact Nat.le_refl _)]; rfl
  | k + 1 => by
    have ih := nms_take L M u k
    rw [insL]
    cases M[k]? with
    | none => exact ih
    | some x =>
      show (nms (addL (insL L M false k) x false)).take L.length = nms L
      cases hn : nthO (nms (insL L M false k)) x.n 0 with
      | none =>
        rw [(addF_none hn).1, nms_appC, List.take_append_of_le_length (by rw [List.length_map]; exact (insL_len L M false k).1)]
        exact ih
      | some i => rw [(addF_some hn).1, nms_set hn]; exact ih
theorem cntI (L M : List Mx) (q : ByteArray) : ∀ k, k ≤ M.length → cnt (nms (insL L M false k)) q = if cnt (nms L) q = 0 then min 1 (cnt (nms (M.take k)) q) else cnt (nms L) q
  | 0, _ => by
    show cnt (nms L) q = _
    rw [List.take_zero]
    split
    · rename_i h; rw [h]; rfl
    · rfl
  | k + 1, hk => by
    have ih := cntI L M q k (by omega)
    have hx := List.getElem?_eq_getElem (show k < M.length by omega)
    generalize M[k] = x at hx
    rw [insL_step hx, takeSnoc hx, nms_appC, cnt_appC]
    have e1 : cnt (nms [x]) q = if x.n = q then 1 else 0 := by show cnt [x.n] q = _; rw [cnt_consC]; rfl
    rw [e1]
    cases hn : nthO (nms (insL L M false k)) x.n 0 with
    | none =>
      rw [(addF_none hn).1, nms_appC, cnt_appC, e1, ih]
      have h0 := nthO_cnt0.1 hn
      by_cases hq : x.n = q
      · subst hq
        rw [ih] at h0
        have e2 : (if x.n = x.n then 1 else 0) = (1 : Nat) := if_pos rfl
        rw [e2]
        split at h0
        · rename_i hz; rw [if_pos hz, if_pos hz]; omega
        · rename_i hz; exact absurd h0 hz
      · rw [if_neg hq]; split <;> omega
    | some i =>
      rw [(addF_some hn).1, nms_set hn, ih]
      by_cases hq : x.n = q
      · subst hq
        have h0 : 0 < cnt (nms (insL L M false k)) x.n := nthO_some_iff.1 ⟨i, hn⟩
        rw [ih] at h0
        have e2 : (if x.n = x.n then 1 else 0) = (1 : Nat) := if_pos rfl
        rw [e2]
        split
        · rename_i hz; rw [if_pos hz] at h0; omega
        · rfl
      · rw [if_neg hq, Nat.add_zero]
theorem insE_prefix (L M : List Mx) (u : Bool) (k : Nat) : ∀ d, ∃ R, insE L M u (k + d) = insE L M u k ++ R
  | 0 => ⟨[], by simp⟩
  | d + 1 => by
    obtain ⟨R, e⟩ := insE_prefix L M u k d
    rw [show k + (d + 1) = (k + d) + 1 by omega, insE]
    cases M[k + d]? with
    | none => exact ⟨R, e⟩
    | some x => exact ⟨R ++ [_], by show insE L M u (k + d) ++ _ = _; rw [e, List.append_assoc]⟩
theorem insE_get {L M : List Mx} {u : Bool} {i : Nat} {x : Mx} (h : M[i]? = some x) : (insE L M u M.length)[i]? = some ⟨addW (insL L M u i) x u, x.n⟩ := by
  have hi := (List.getElem?_eq_some_iff.1 h).1
  obtain ⟨d, hd⟩ := Nat.exists_eq_add_of_le (show i + 1 ≤ M.length by omega)
  obtain ⟨R, e⟩ := insE_prefix L M u (i + 1) d
  rw [← hd, insE_step h] at e
  rw [e, List.append_assoc, List.getElem?_append_right (by rw [insE_len L M u i (by omega)]; exact Nat.le_refl _), insE_len L M u i (by omega), Nat.sub_self]
  rfl
/-- what the event tells -/
theorem event_there {L M : List Mx} {i : Nat} {x : Mx} (h : M[i]? = some x) : addW (insL L M false i) x false = if 0 < cnt (nms L) x.n ∨ 0 < cnt (nms (M.take i)) x.n then 114 else 97 := by
  have hi := (List.getElem?_eq_some_iff.1 h).1
  have e := cntI L M x.n i (by omega)
  cases hn : nthO (nms (insL L M false i)) x.n 0 with
  | none =>
    have h0 := nthO_cnt0.1 hn
    rw [h0] at e
    rw [(addF_none hn).2, if_neg]
    split at e <;> omega
  | some j =>
    have h0 := nthO_some_iff.1 ⟨j, hn⟩
    rw [e] at h0
    rw [(addF_some hn).2, if_pos]
    split at h0 <;> omega
/-- the first member of a name -/
def fst13 (l : List Mx) (q : ByteArray) : Option Mx := l.find? (fun x => decide (x.n = q))
theorem fst13_app (a b : List Mx) (q : ByteArray) : fst13 (a ++ b) q = (fst13 a q).or (fst13 b q) := by unfold fst13; exact List.find?_append
theorem fst13_none {l : List Mx} {q : ByteArray} (h : cnt (nms l) q = 0) : fst13 l q = none := by
  unfold fst13
  rw [List.find?_eq_none]
  intro x hx e
  have hq : x.n = q := by simpa using e
  unfold cnt at h
  rw [List.countP_eq_zero] at h
  exact absurd (by simp [hq]) (h x.n (List.mem_map.2 ⟨x, hx, rfl⟩))
theorem fst13_set {ms : List Mx} {x : Mx} : ∀ {i : Nat}, nthO (nms ms) x.n 0 = some i → fst13 (ms.set i x) x.n = some x := by
  induction ms with
  | nil => intro i h; simp [nms, nthO] at h
  | cons y r ih =>
    intro i h
    have e : nms (y :: r) = y.n :: nms r := rfl
    rw [e] at h
    by_cases hy : y.n = x.n
    · rw [nthO_hit hy] at h
      injection h with h
      subst h
      unfold fst13; simp
    · rw [nthO_miss hy] at h
      obtain ⟨j, hj, rfl⟩ := Option.map_eq_some_iff.1 h
      have := ih hj
      unfold fst13 at this ⊢
      rw [List.set_cons_succ, List.find?_cons]
      simp [hy, this]
theorem fst13_other {ms : List Mx} {x : Mx} {q : ByteArray} (hq : x.n ≠ q) : ∀ {i : Nat}, nthO (nms ms) x.n 0 = some i → fst13 (ms.set i x) q = fst13 ms q := by
  induction ms with
  | nil => intro i h; simp [nms, nthO] at h
  | cons y r ih =>
    intro i h
    have e : nms (y :: r) = y.n :: nms r := rfl
    rw [e] at h
    by_cases hy : y.n = x.n
    · rw [nthO_hit hy] at h
      injection h with h
      subst h
      have hyq : ¬ (y.n = q) := by rw [hy]; exact hq
      unfold fst13; simp [hq, hyq]
    · rw [nthO_miss hy] at h
      obtain ⟨j, hj, rfl⟩ := Option.map_eq_some_iff.1 h
      have := ih hj
      unfold fst13 at this ⊢
      rw [List.set_cons_succ, List.find?_cons, List.find?_cons, this]
theorem fst13_last {L M : List Mx} {i : Nat} {x : Mx} (h : M[i]? = some x) (hl : ∀ j y, i < j → M[j]? = some y → y.n ≠ x.n) : ∀ d, i + 1 + d ≤ M.length → fst13 (insL L M false (i + 1 + d)) x.n = some x
  | 0, _ => by
    rw [Nat.add_zero, insL_step h]
    cases hn : nthO (nms (insL L M false i)) x.n 0 with
    | none =>
      rw [(addF_none hn).1, fst13_app, fst13_none (nthO_cnt0.1 hn)]
      unfold fst13; simp
    | some j => rw [(addF_some hn).1]; exact fst13_set hn
  | d + 1, hd => by
    have ih := fst13_last (L := L) h hl d (by omega)
    have hy := List.getElem?_eq_getElem (show i + 1 + d < M.length by omega)
    generalize M[i + 1 + d] = y at hy
    have hne := hl _ y (by omega) hy
    rw [show i + 1 + (d + 1) = (i + 1 + d) + 1 by omega, insL_step hy]
    cases hn : nthO (nms (insL L M false (i + 1 + d))) y.n 0 with
    | none => rw [(addF_none hn).1, fst13_app, ih]; rfl
    | some j => rw [(addF_some hn).1, fst13_other hne hn]; exact ih
/-- the list behind Insert -/
theorem out_parts {L M : List Mx} {pw : Int} {pa : ByteArray} {p : Nat} (h : spotO L pw pa = some p) : insX L M pw pa false = ((insL L M false M.length).take L.length).take p ++ ((insL L M false M.length).drop L.length ++ ((insL L M false M.length).take L.length).drop p) := by unfold insX; rw [h]
theorem nms_takeC (l : List Mx) (k : Nat) : nms (l.take k) = (nms l).take k := by unfold nms; rw [List.map_take]
theorem cnt_out {L M : List Mx} {pw : Int} {pa : ByteArray} {p : Nat} (h : spotO L pw pa = some p) (q : ByteArray) : cnt (nms (insX L M pw pa false)) q = cnt (nms (insL L M false M.length)) q := by
  rw [out_parts h, nms_appC, nms_appC, cnt_appC, cnt_appC]
  have e1 := congrArg (fun l => cnt (nms l) q) (List.take_append_drop p ((insL L M false M.length).take L.length))
  have e2 := congrArg (fun l => cnt (nms l) q) (List.take_append_drop L.length (insL L M false M.length))
  simp only [nms_appC, cnt_appC] at e1 e2
  omega
theorem cnt_old (L M : List Mx) (q : ByteArray) : cnt (nms ((insL L M false M.length).take L.length)) q = cnt (nms L) q := by
  rw [nms_takeC, nms_take L M false]
theorem out_count {L M : List Mx} {pw : Int} {pa : ByteArray} {p i : Nat} {x : Mx} (h : spotO L pw pa = some p) (hx : M[i]? = some x) : cnt (nms (insX L M pw pa false)) x.n = max 1 (cnt (nms L) x.n) := by
  have hc : 0 < cnt (nms M) x.n := by
    have hm : x ∈ M := List.mem_of_getElem? hx
    unfold cnt
    rw [List.countP_pos_iff]
    exact ⟨x.n, List.mem_map.2 ⟨x, hm, rfl⟩, by simp⟩
  have e := cntI L M x.n M.length (Nat.le_refl _)
  rw [List.take_of_length_le (Nat.le_refl _)] at e
  rw [cnt_out h, e]
  split <;> omega
theorem out_first {L M : List Mx} {pw : Int} {pa : ByteArray} {p i : Nat} {x : Mx} (h : spotO L pw pa = some p) (hx : M[i]? = some x) (hl : ∀ j y, i < j → M[j]? = some y → y.n ≠ x.n) : fst13 (insX L M pw pa false) x.n = some x := by
  have hi := (List.getElem?_eq_some_iff.1 hx).1
  obtain ⟨d, hd⟩ := Nat.exists_eq_add_of_le (show i + 1 ≤ M.length by omega)
  have e := fst13_last (L := L) hx hl d (by omega)
  rw [← hd] at e
  have es : fst13 (insL L M false M.length) x.n = (fst13 ((insL L M false M.length).take L.length) x.n).or (fst13 ((insL L M false M.length).drop L.length) x.n) := by rw [← fst13_app, List.take_append_drop]
  have ea : fst13 ((insL L M false M.length).take L.length) x.n = (fst13 (((insL L M false M.length).take L.length).take p) x.n).or (fst13 (((insL L M false M.length).take L.length).drop p) x.n) := by rw [← fst13_app, List.take_append_drop]
  have ec := cnt_old L M x.n
  have et := cntI L M x.n M.length (Nat.le_refl _)
  have e2 := congrArg (fun l => cnt (nms l) x.n) (List.take_append_drop L.length (insL L M false M.length))
  have e3 := congrArg (fun l => cnt (nms l) x.n) (List.take_append_drop p ((insL L M false M.length).take L.length))
  simp only [nms_appC, cnt_appC] at e2 e3
  rw [out_parts h, fst13_app, fst13_app]
  by_cases hz : cnt (nms L) x.n = 0
  · have h1 := fst13_none (show cnt (nms (((insL L M false M.length).take L.length).take p)) x.n = 0 by omega)
    have h2 := fst13_none (show cnt (nms (((insL L M false M.length).take L.length).drop p)) x.n = 0 by omega)
    have h3 := fst13_none (show cnt (nms ((insL L M false M.length).take L.length)) x.n = 0 by omega)
    rw [h1, h2]
    rw [es, h3] at e
    simpa using e
  · rw [if_neg hz] at et
    have h1 := fst13_none (show cnt (nms ((insL L M false M.length).drop L.length)) x.n = 0 by omega)
    rw [h1]
    rw [es, h1, ea] at e
    simpa using e
/-- the members whose names are not in M -/
def keepM (M l : List Mx) : List Mx := l.filter (fun x => decide (cnt (nms M) x.n = 0))
theorem keep_app (M a b : List Mx) : keepM M (a ++ b) = keepM M a ++ keepM M b := by unfold keepM; exact List.filter_append _ _
theorem keep_set {M ms : List Mx} {x : Mx} (hx : cnt (nms M) x.n ≠ 0) : ∀ {i : Nat}, nthO (nms ms) x.n 0 = some i → keepM M (ms.set i x) = keepM M ms := by
  induction ms with
  | nil => intro i h; simp [nms, nthO] at h
  | cons y r ih =>
    intro i h
    have e : nms (y :: r) = y.n :: nms r := rfl
    rw [e] at h
    by_cases hy : y.n = x.n
    · rw [nthO_hit hy] at h
      injection h with h
      subst h
      unfold keepM
      rw [List.set_cons_zero, List.filter_cons, List.filter_cons]
      have hy2 : cnt (nms M) y.n ≠ 0 := by rw [hy]; exact hx
      simp [hx, hy2]
    · rw [nthO_miss hy] at h
      obtain ⟨j, hj, rfl⟩ := Option.map_eq_some_iff.1 h
      have := ih hj
      unfold keepM at this ⊢
      rw [List.set_cons_succ, List.filter_cons, List.filter_cons, this]
theorem keep_ins (L M : List Mx) : ∀ k, k ≤ M.length → keepM M (insL L M false k) = keepM M L
  | 0, _ => rfl
  | k + 1, hk => by
    have ih := keep_ins L M k (by omega)
    have hx := List.getElem?_eq_getElem (show k < M.length by omega)
    generalize M[k] = x at hx
    have hc : cnt (nms M) x.n ≠ 0 := by
      have hm : x ∈ M := List.mem_of_getElem? hx
      have : 0 < cnt (nms M) x.n := by
        unfold cnt
        rw [List.countP_pos_iff]
        exact ⟨x.n, List.mem_map.2 ⟨x, hm, rfl⟩, by simp⟩
      omega
    rw [insL_step hx]
    cases hn : nthO (nms (insL L M false k)) x.n 0 with
    | none =>
      rw [(addF_none hn).1, keep_app, ih]
      unfold keepM
      simp [hc]
    | some i => rw [(addF_some hn).1, keep_set hc hn, ih]
theorem keep_len {M a b : List Mx} (h : nms a = nms b) : (keepM M a).length = (keepM M b).length := by
  have e : ∀ l : List Mx, (keepM M l).length = ((nms l).filter (fun n => decide (cnt (nms M) n = 0))).length := by
    intro l
    unfold keepM nms
    rw [List.filter_map, List.length_map]
    rfl
  rw [e, e, h]
theorem keep_out {L M : List Mx} {pw : Int} {pa : ByteArray} {p : Nat} (h : spotO L pw pa = some p) : keepM M (insX L M pw pa false) = keepM M L := by
  have e1 := keep_ins L M M.length (Nat.le_refl _)
  have e2 : keepM M (insL L M false M.length) = keepM M ((insL L M false M.length).take L.length) ++ keepM M ((insL L M false M.length).drop L.length) := by rw [← keep_app, List.take_append_drop]
  have e3 : (keepM M ((insL L M false M.length).take L.length)).length = (keepM M L).length := keep_len (by rw [nms_takeC, nms_take L M false])
  rw [e1] at e2
  have e4 : keepM M ((insL L M false M.length).drop L.length) = [] := by
    have := congrArg List.length e2
    rw [List.length_append] at this
    exact List.eq_nil_of_length_eq_zero (by omega)
  rw [e4, List.append_nil] at e2
  rw [out_parts h, keep_app, keep_app, e4, List.nil_append, ← keep_app, List.take_append_drop]
  exact e2.symm
end Go.Proofs.Ytaaagdmhokgcjaa
