
-- What every directory since the last SyncDir shows, through the calls of a replacement.
import Derived.Test.YtbbblncoicjacaaGreatDoorX0
namespace Go.Proofs.YtbbblncoicjacaaGreatDoor
open Go
set_option linter.unusedVariables false
def firmN (bs : List Bd) (n : Nat) : Prop := (lookB bs n).safe = (lookB bs n).data.size
structure Sc (st : St) (S : List (List Fil)) : Prop where
  wf : Wf st
  dw : DW st
  firm : ∀ d ∈ st.dirs, ∀ e ∈ d, e.1 ≠ tmpB → firmN st.bodies e.2
  sees : st.dirs.map (seen st.bodies) = S
def lastS (S : List (List Fil)) : List Fil := S.getLast?.getD []
theorem lastS_snoc (S : List (List Fil)) (l : List Fil) : lastS (S ++ [l]) = l := by simp [lastS]
theorem Sc.now {st : St} {S : List (List Fil)} (h : Sc st S) : seen st.bodies st.now = lastS S := by
  unfold lastS St.now
  rw [← h.sees, List.getLast?_map]
  cases hl : st.dirs.getLast? with
  | none => exact absurd (List.getLast?_eq_none_iff.1 hl) h.wf.ne
  | some d => rfl
theorem Sc.syncDir {st : St} {S : List (List Fil)} (h : Sc st S) : Sc st.syncDir [lastS S] where
  wf := (syncDir_fine h.wf).wf
  dw := fun d hd => by simp [St.syncDir] at hd; subst hd; exact h.dw _ (now_mem h.wf)
  firm := fun d hd => by simp [St.syncDir] at hd; subst hd; exact h.firm _ (now_mem h.wf)
  sees := by show [seen st.bodies st.now] = _; rw [h.now]
theorem look_append {bs : List Bd} {b : Bd} {n : Nat} (h1 : 1 ≤ n) (h2 : n ≤ bs.length) : lookB (bs ++ [b]) n = lookB bs n := by
  unfold lookB; rw [List.getElem?_append_left (by omega)]
theorem look_new (bs : List Bd) (b : Bd) : lookB (bs ++ [b]) (bs.length + 1) = b := by
  unfold lookB; simp
theorem look_set_other {bs : List Bd} {b : Bd} {i n : Nat} (h : n - 1 ≠ i) : lookB (bs.set i b) n = lookB bs n := by
  unfold lookB; rw [List.getElem?_set_ne (fun e => h e.symm)]
theorem now_snoc (c : Nat) (bs : List Bd) (ds : List Dr) (d : Dr) : St.now ⟨c, bs, ds ++ [d]⟩ = d := by simp [St.now]
/-- A directory more. -/
theorem Sc.add {st : St} {S : List (List Fil)} (h : Sc st S) {d : Dr} (hl : st.dirs.length < 2097152) (h1 : d.length ≤ 64) (h2 : ∀ e ∈ d, 1 ≤ e.2 ∧ e.2 ≤ st.bodies.length) (hd : Dw d) (hf : ∀ e ∈ d, e.1 ≠ tmpB → firmN st.bodies e.2) : Sc { st with dirs := st.dirs ++ [d] } (S ++ [seen st.bodies d]) where
  wf := h.wf.dir d h1 h2 hl
  dw := h.dw.add hd
  firm := fun x hx => by
    rcases List.mem_append.1 hx with hx | hx
    · exact h.firm x hx
    · simp at hx; subst hx; exact hf
  sees := by show (st.dirs ++ [d]).map _ = _; rw [List.map_append, h.sees]; rfl
/-- Other bodies, the same for all but TempName. -/
theorem Sc.bods {st : St} {S : List (List Fil)} (h : Sc st S) {bs : List Bd} (hw : Wf { st with bodies := bs }) (hb : ∀ d ∈ st.dirs, ∀ e ∈ d, e.1 ≠ tmpB → lookB bs e.2 = lookB st.bodies e.2) : Sc { st with bodies := bs } S where
  wf := hw
  dw := h.dw
  firm := fun d hd e he hn => by
    have := h.firm d hd e he hn
    unfold firmN at this ⊢
    rw [hb d hd e he hn]; exact this
  sees := by
    show st.dirs.map (seen bs) = S
    rw [← h.sees]
    apply List.map_congr_left
    intro d hd
    exact seen_congr fun e he hn => hb d hd e he hn
/-- The file TempName and its body. -/
structure Tm (st : St) (L : List Fil) (n : Nat) (b : Bd) : Prop where
  only : ∀ d ∈ st.dirs, ∀ e ∈ d, e.2 = n → e.1 = tmpB
  lead : (tmpB, n) ∈ st.now
  body : st.bodies[n - 1]? = some b
  pos : 1 ≤ n
  used : st.used = sizeF L + b.data.size
theorem sc_create {st : St} {S : List (List Fil)} (h : Sc st S) (hb : st.bodies.length < 2097152) (hl : st.dirs.length < 2097152) (m0 m1 m2 m3 : Int) (hfull : ¬ (leads st.now tmpB = 0 ∧ 64 ≤ st.now.length)) :
    (st.create tmpB m0 m1 m2 m3).1 = (st.bodies.length + 1, 0) ∧ Sc (st.create tmpB m0 m1 m2 m3).2 (S ++ [lastS S]) ∧ Tm (st.create tmpB m0 m1 m2 m3).2 (lastS S) (st.bodies.length + 1) ⟨m0, m1, m2, m3, ⟨#[]⟩, 0⟩ ∧ (st.create tmpB m0 m1 m2 m3).2.cap = st.cap := by
  have hfine := create_fine h.wf tmpB m0 m1 m2 m3 hb hl
  have hnow := h.dw.now h.wf
  have hlow : ∀ d ∈ st.dirs, ∀ e ∈ d, 1 ≤ e.2 ∧ e.2 ≤ st.bodies.length := fun d hd e he => h.wf.led d hd e he
  have hst : st.create tmpB m0 m1 m2 m3 = ((st.bodies.length + 1, 0), { st with bodies := st.bodies ++ [⟨m0, m1, m2, m3, ⟨#[]⟩, 0⟩], dirs := st.dirs ++ [with_ st.now tmpB (st.bodies.length + 1)] }) := by
    unfold St.create
    rw [if_neg (by rw [tmp_ok]; decide), if_neg hfull]
  have hwf := hfine.wf
  rw [hst] at hwf ⊢
  have hlook : ∀ d ∈ st.dirs, ∀ e ∈ d, lookB (st.bodies ++ [⟨m0, m1, m2, m3, ⟨#[]⟩, 0⟩]) e.2 = lookB st.bodies e.2 := fun d hd e he => look_append (hlow d hd e he).1 (hlow d hd e he).2
  have hdw : Dw (with_ st.now tmpB (st.bodies.length + 1)) := dw_with hnow tmpB _ tmp_ok fun e he _ => by
    have := (hlow _ (now_mem h.wf) e he).2; omega
  have hseen : seen (st.bodies ++ [⟨m0, m1, m2, m3, ⟨#[]⟩, 0⟩]) (with_ st.now tmpB (st.bodies.length + 1)) = lastS S := by
    rw [← h.now]
    unfold seen
    rw [without_with]
    exact seen_congr fun e he hn => hlook _ (now_mem h.wf) e he
  refine ⟨rfl, ⟨hwf, ?_, ?_, ?_⟩, ⟨?_, ?_, ?_, by omega, ?_⟩, rfl⟩
  · intro d hd
    rcases List.mem_append.1 hd with hd | hd
    · exact h.dw d hd
    · simp at hd; subst hd; exact hdw
  · intro d hd e he hn
    rcases List.mem_append.1 hd with hd | hd
    · show firmN (st.bodies ++ [_]) e.2
      unfold firmN; rw [hlook d hd e he]; exact h.firm d hd e he hn
    · simp at hd; subst hd
      rcases ins_mem _ _ _ _ he with rfl | he
      · exact absurd rfl hn
      · have he' := without_mem _ _ _ he
        show firmN (st.bodies ++ [_]) e.2
        unfold firmN; rw [hlook _ (now_mem h.wf) e he']; exact h.firm _ (now_mem h.wf) e he' hn
  · show (st.dirs ++ [with_ st.now tmpB (st.bodies.length + 1)]).map _ = _
    rw [List.map_append, List.map_cons, List.map_nil, hseen, ← h.sees]
    congr 1
    apply List.map_congr_left
    intro d hd
    exact seen_congr fun e he hn => hlook d hd e he
  · intro d hd e he hn
    rcases List.mem_append.1 hd with hd | hd
    · have := (hlow d hd e he).2; omega
    · simp at hd; subst hd
      rcases ins_mem _ _ _ _ he with rfl | he
      · rfl
      · have := (hlow _ (now_mem h.wf) e (without_mem _ _ _ he)).2; omega
  · show (tmpB, st.bodies.length + 1) ∈ St.now ⟨_, _, st.dirs ++ [_]⟩
    rw [now_snoc]
    exact (ins_perm _ _ _).mem_iff.2 (by simp)
  · simp
  · unfold St.used
    show usedIn _ (St.now ⟨_, _, st.dirs ++ [_]⟩) = _
    rw [now_snoc]
    show usedIn (st.bodies ++ [_]) (with_ st.now tmpB (st.bodies.length + 1)) = _
    rw [used_with, szOf_look, look_new]
    have : seen (st.bodies ++ [⟨m0, m1, m2, m3, ⟨#[]⟩, 0⟩]) st.now = lastS S := by
      rw [← h.now]; exact seen_congr fun e he hn => hlook _ (now_mem h.wf) e he
    rw [this]; exact Nat.add_comm _ _
theorem Tm.at {st : St} {L : List Fil} {n : Nat} {b : Bd} (t : Tm st L n b) : st.at_ (n : Int) = some b := by
  unfold St.at_
  have : there st.now (n : Int) = true := by
    unfold there; rw [List.any_eq_true]; exact ⟨_, t.lead, by simp⟩
  rw [if_pos this, Int.toNat_natCast]; exact t.body
/-- TempName's body is put anew. -/
theorem Tm.put {st : St} {S : List (List Fil)} {L : List Fil} {n : Nat} {b : Bd} (h : Sc st S) (t : Tm st L n b) (b' : Bd) (hb : b'.data.size ≤ 1073741824 ∧ b'.safe ≤ b'.data.size) : Sc (st.put n b') S ∧ Tm (st.put n b') L n b' := by
  have hlow : ∀ d ∈ st.dirs, ∀ e ∈ d, 1 ≤ e.2 ∧ e.2 ≤ st.bodies.length := fun d hd e he => h.wf.led d hd e he
  have hp := t.pos
  have hlt : n - 1 < st.bodies.length := (List.getElem?_eq_some_iff.1 t.body).1
  have hi : ((n : Int)).toNat - 1 = n - 1 := by rw [Int.toNat_natCast]
  have hw := h.wf.put (n : Int) b' hb
  refine ⟨h.bods hw fun d hd e he hn => ?_, ⟨t.only, t.lead, ?_, t.pos, ?_⟩⟩
  · rw [hi]
    refine look_set_other ?_
    have h1 := (hlow d hd e he).1
    intro e2
    exact hn (t.only d hd e he (by omega))
  · show (st.bodies.set _ b')[n - 1]? = _
    rw [hi, List.getElem?_set_self hlt]
  · have hu := usedIn_set st.bodies st.now (n - 1) b b' t.body (h.dw.now h.wf).unlike (fun e he => (hlow _ (now_mem h.wf) e he).1) ⟨_, t.lead, by show n = _; omega⟩
    have h0 := t.used
    unfold St.used at h0
    show usedIn (st.bodies.set _ b') st.now = _
    rw [hi]; omega
theorem Tm.append {st : St} {S : List (List Fil)} {L : List Fil} {n : Nat} {b : Bd} (h : Sc st S) (t : Tm st L n b) (data : ByteArray) :
    (data ≠ ⟨#[]⟩ ∧ st.cap < sizeF L + b.data.size + data.size → st.append n data = (31, st)) ∧
    (¬ (data ≠ ⟨#[]⟩ ∧ st.cap < sizeF L + b.data.size + data.size) → (st.append n data).1 = 0 ∧ Sc (st.append n data).2 S ∧ Tm (st.append n data).2 L n { b with data := b.data ++ data } ∧ (st.append n data).2.cap = st.cap) := by
  have hf := append_fine h.wf n data
  have e : st.append n data = if data ≠ ⟨#[]⟩ ∧ st.cap < sizeF L + b.data.size + data.size then (31, st) else (0, st.put n { b with data := b.data ++ data }) := by
    unfold St.append; rw [t.at]; simp only [t.used]
  refine ⟨fun hc => by rw [e, if_pos hc], fun hc => ?_⟩
  rw [e, if_neg hc] at hf ⊢
  have hbm := hf.wf.bod { b with data := b.data ++ data } (by
    show _ ∈ st.bodies.set _ _
    rw [Int.toNat_natCast]
    exact List.mem_or_eq_of_mem_set (l := st.bodies.set (n - 1) { b with data := b.data ++ data }) (i := n - 1) (b := { b with data := b.data ++ data }) (by
      rw [List.set_set]
      exact List.mem_set (List.getElem?_eq_some_iff.1 t.body).1 _) |>.elim id (fun e => by
        exact List.mem_set (List.getElem?_eq_some_iff.1 t.body).1 _))
  obtain ⟨h1, h2⟩ := Tm.put h t { b with data := b.data ++ data } hbm
  exact ⟨rfl, h1, h2, rfl⟩
theorem Tm.sync {st : St} {S : List (List Fil)} {L : List Fil} {n : Nat} {b : Bd} (h : Sc st S) (t : Tm st L n b) :
    (st.sync n).1 = 0 ∧ Sc (st.sync n).2 S ∧ Tm (st.sync n).2 L n { b with safe := b.data.size } ∧ (st.sync n).2.cap = st.cap := by
  have e : st.sync n = (0, st.put n { b with safe := b.data.size }) := by unfold St.sync; rw [t.at]
  rw [e]
  have hbm := h.wf.bod b (List.mem_of_getElem? t.body)
  obtain ⟨h1, h2⟩ := Tm.put h t { b with safe := b.data.size } ⟨hbm.1, Nat.le_refl _⟩
  exact ⟨rfl, h1, h2, rfl⟩
theorem tm_leads {st : St} {S : List (List Fil)} {L : List Fil} {n : Nat} {b : Bd} (h : Sc st S) (t : Tm st L n b) : leads st.now tmpB = n :=
  dw_leads (h.dw.now h.wf) t.lead fun f hf => by have := (h.wf.led _ (now_mem h.wf) f hf).1; omega
theorem Tm.rename {st : St} {S : List (List Fil)} {L : List Fil} {n : Nat} {b : Bd} (h : Sc st S) (t : Tm st L n b) (hf : b.safe = b.data.size) (name : ByteArray) (hne : name ≠ tmpB) (hok : okName name = true) (hl : st.dirs.length < 2097152) :
    (st.rename tmpB name).1 = 0 ∧ Sc (st.rename tmpB name).2 (S ++ [newF (lastS S) (filB name b)]) := by
  have hlow := h.wf.led _ (now_mem h.wf)
  have hle := tm_leads h t
  have hp := t.pos
  have hlt : n - 1 < st.bodies.length := (List.getElem?_eq_some_iff.1 t.body).1
  have hfine := rename_fine h.wf tmpB name hl
  have e : st.rename tmpB name = (0, { st with dirs := st.dirs ++ [with_ (without st.now tmpB) name n] }) := by
    unfold St.rename
    rw [if_neg (by rw [tmp_ok, hok]; decide), if_neg (by rw [hle]; omega), if_neg (fun e => hne e.symm), hle]
  rw [e] at hfine ⊢
  have hlook : lookB st.bodies n = b := by unfold lookB; rw [t.body]; rfl
  have hmem : ∀ x ∈ with_ (without st.now tmpB) name n, x = (name, n) ∨ (x ∈ st.now ∧ x.1 ≠ tmpB) := fun x hx => by
    rcases ins_mem _ _ _ _ hx with rfl | hx
    · exact .inl rfl
    · have h1 := without_mem _ _ _ hx
      exact .inr ⟨without_mem _ _ _ h1, without_name _ _ _ h1⟩
  refine ⟨rfl, ?_⟩
  have hs := seen_named st.bodies st.now name n hne
  rw [h.now] at hs
  have hfo : filOf st.bodies (name, n) = filB name b := by unfold filOf; rw [hlook]
  rw [hfo] at hs
  rw [← hs]
  have hd : with_ (without st.now tmpB) name n ∈ st.dirs ++ [with_ (without st.now tmpB) name n] := by simp
  refine h.add hl (hfine.wf.few _ hd) (hfine.wf.led _ hd) ?_ ?_
  · refine dw_with (dw_without (h.dw.now h.wf) tmpB) name n hok fun x hx _ e2 => ?_
    exact without_name _ _ x hx (t.only _ (now_mem h.wf) x (without_mem _ _ _ hx) e2)
  · intro x hx hn
    rcases hmem x hx with rfl | ⟨h1, h2⟩
    · unfold firmN; rw [hlook]; exact hf
    · exact h.firm _ (now_mem h.wf) x h1 h2
theorem sc_remove {st : St} {S : List (List Fil)} (h : Sc st S) (hl : st.dirs.length < 2097152) : ∃ S', Sc (st.remove tmpB).2 S' ∧ (∀ l ∈ S', l ∈ S ∨ l = lastS S) := by
  have hfine := remove_fine h.wf tmpB hl
  unfold St.remove at hfine ⊢
  rw [if_neg (by rw [tmp_ok]; decide)] at hfine ⊢
  split
  · exact ⟨S, h, fun l hl => .inl hl⟩
  · rename_i hle
    rw [if_neg hle] at hfine
    have hd : without st.now tmpB ∈ st.dirs ++ [without st.now tmpB] := by simp
    refine ⟨_, h.add hl (hfine.wf.few _ hd) (hfine.wf.led _ hd) (dw_without (h.dw.now h.wf) tmpB) (fun x hx hn => h.firm _ (now_mem h.wf) x (without_mem _ _ _ hx) hn), fun l hl => ?_⟩
    rcases List.mem_append.1 hl with hl | hl
    · exact .inl hl
    · simp at hl
      refine .inr ?_
      rw [hl, ← h.now]
      unfold seen; rw [without_without]
theorem cutTo_firm (cuts : List Int) (d : Dr) (bs : List Bd) (n : Nat) (hn : 1 ≤ n) (h : ∀ e ∈ d, e.2 = n → firmN bs n) (hp : ∀ e ∈ d, 1 ≤ e.2) (k : Nat) : (cutTo cuts d bs k)[n - 1]? = bs[n - 1]? := by
  induction k with
  | zero => rfl
  | succ k ih =>
    simp only [cutTo]
    cases hk : d[k]? with
    | none => exact ih
    | some e =>
      simp only
      have he := List.mem_of_getElem? hk
      have h1 := hp e he
      by_cases h2 : e.2 = n
      · have hf := h e he h2
        rw [h2, ih]
        cases hx : bs[n - 1]? with
        | none => simp only; rw [ih, hx]
        | some x =>
          simp only
          have hl : lookB bs n = x := by unfold lookB; rw [hx]; rfl
          unfold firmN at hf
          rw [hl] at hf
          have hcut : cutB cuts k x = x := by
            obtain ⟨x0, x1, x2, x3, xd, xs⟩ := x
            simp only at hf
            unfold cutB
            have hc := cutOf_le cuts k (xd.size - xs)
            have hz : xs + cutOf cuts k (xd.size - xs) = xd.size := by simp only [hf] at hc ⊢; omega
            simp only [hz, ByteArray.extract_zero_size]
            rw [hf]
          rw [hcut]
          have hlt : n - 1 < (cutTo cuts d bs k).length := by rw [cutTo_len]; exact (List.getElem?_eq_some_iff.1 hx).1
          rw [List.getElem?_set_self hlt]
      · cases hx : (cutTo cuts d bs k)[e.2 - 1]? with
        | none => exact ih
        | some x =>
          simp only
          rw [List.getElem?_set_ne (by omega)]; exact ih
theorem sc_crash {st : St} {S : List (List Fil)} (h : Sc st S) (n : Int) (cuts : List Int) : Sc (st.crash n cuts) [(S[(within n 0 ((S.length - 1 : Nat) : Int)).toNat]?).getD []] := by
  obtain ⟨m, h1, h2, h3⟩ := cutDir_get h.wf n
  have hd := List.mem_of_getElem? h3
  have hlen : S.length = st.dirs.length := by rw [← h.sees, List.length_map]
  have hfine := crash_fine h.wf n cuts
  have hlook : ∀ e ∈ st.cutDir n, e.1 ≠ tmpB → lookB (cutTo cuts (st.cutDir n) st.bodies (st.cutDir n).length) e.2 = lookB st.bodies e.2 := fun e he hn => by
    unfold lookB
    rw [cutTo_firm cuts (st.cutDir n) st.bodies e.2 (h.wf.led _ hd e he).1 (fun f hf h2 => ?_) (fun f hf => (h.wf.led _ hd f hf).1)]
    have := dw_uniqB (h.dw _ hd) hf he h2
    subst this
    exact h.firm _ hd f hf hn
  refine ⟨hfine.wf, ?_, ?_, ?_⟩
  · intro d hd'
    simp [St.crash] at hd'; subst hd'
    exact h.dw _ hd
  · intro d hd' e he hn
    simp [St.crash] at hd'; subst hd'
    show firmN (cutTo _ _ _ _) e.2
    unfold firmN
    rw [hlook e he hn]; exact h.firm _ hd e he hn
  · show [seen (cutTo cuts (st.cutDir n) st.bodies (st.cutDir n).length) (st.cutDir n)] = _
    rw [seen_congr hlook, hlen, h1, Int.toNat_natCast, ← h.sees, List.getElem?_map, h3]; rfl
end Go.Proofs.YtbbblncoicjacaaGreatDoor
