import Derived.Test.YtofmiaaglbcebaaGreatDoorVA
import Derived.Test.YtofmiaaglbcebaaGreatDoorQ1

-- Replace, plainly; directories and what is seen of them.
namespace Go.Proofs.YtofmiaaglbcebaaGreatDoor
open Go
set_option linter.unusedVariables false
def tmpB : ByteArray := ⟨#[97, 114, 46, 116, 109, 112, 126]⟩
theorem tmp_ok : okName tmpB = true := by decide +kernel
def nP (data : ByteArray) : Nat := (data.size + 511) / 512
def pieceOf (data : ByteArray) (k : Nat) : ByteArray := data.extract (k * 512) (min (k * 512 + 512) data.size)
/-- The pieces from the k-th on, n of them, and then a Sync. -/
def Vs.fillN (x : Hd) (data : ByteArray) : Nat → Nat → Vs → (Nat × Nat) × Vs
  | 0, _, v => (((v.sync x).1, 5), (v.sync x).2)
  | n + 1, k, v => if (v.write x (pieceOf data k)).1.2 ≠ 0 then (((v.write x (pieceOf data k)).1.2, 4), (v.write x (pieceOf data k)).2) else Vs.fillN x data n (k + 1) (v.write x (pieceOf data k)).2
def Vs.written (v : Vs) (data : ByteArray) (m0 m1 m2 m3 : Int) : (Nat × Nat) × Vs :=
  if (v.create tmpB m0 m1 m2 m3).1.2 ≠ 0 then (((v.create tmpB m0 m1 m2 m3).1.2, 3), (v.create tmpB m0 m1 m2 m3).2)
  else Vs.fillN ⟨tmpB, (v.create tmpB m0 m1 m2 m3).1.1, v.round, false⟩ data (nP data) 0 (v.create tmpB m0 m1 m2 m3).2
def Vs.named (a : (Nat × Nat) × Vs) (name : ByteArray) : (Nat × Nat) × Vs :=
  if a.1.1 ≠ 0 then a else (((a.2.rename tmpB name).1, 6), (a.2.rename tmpB name).2)
def Vs.undone (b : (Nat × Nat) × Vs) : (Nat × Nat) × Vs := if b.1.1 ≠ 0 then (b.1, (b.2.remove tmpB).2) else b
def Vs.exch (v : Vs) (name data : ByteArray) (m0 m1 m2 m3 : Int) : (Nat × Nat) × Vs := Vs.undone (Vs.named (v.written data m0 m1 m2 m3) name)
def Vs.lastly (b : (Nat × Nat) × Vs) : (Nat × Nat) × Vs :=
  if b.1.1 ≠ 0 then b else if b.2.syncDir.1 ≠ 0 then ((160, 7), b.2.syncDir.2) else ((0, 0), b.2.syncDir.2)
/-- What Replace answers (the number and which call), and the volume behind it. -/
def Vs.replace (v : Vs) (name data : ByteArray) (m0 m1 m2 m3 : Int) : (Nat × Nat) × Vs :=
  if name = tmpB then ((161, 1), v)
  else if okName name = false then ((32, 1), v)
  else if v.syncDir.1 ≠ 0 then ((v.syncDir.1, 2), v.syncDir.2)
  else Vs.lastly (v.syncDir.2.exch name data m0 m1 m2 m3)
theorem Vf.fillN {v : Vs} {k : Nat} (h : Vf v k) (x : Hd) (data : ByteArray) (n j : Nat) : Vf (Vs.fillN x data n j v).2 (k + n + 1) := by
  induction n generalizing v k j with
  | zero => exact h.sync x
  | succ n ih =>
    unfold Vs.fillN
    split
    · exact (h.write x _).mono (by omega)
    · have := ih (h.write x (pieceOf data j)) (j + 1)
      exact this.mono (by omega)
theorem Vf.written {v : Vs} {k : Nat} (h : Vf v k) (hk : k < 2097151) (data : ByteArray) (m0 m1 m2 m3 : Int) : Vf (v.written data m0 m1 m2 m3).2 (k + nP data + 2) := by
  have hc := h.create hk tmpB m0 m1 m2 m3
  unfold Vs.written
  split
  · exact hc.mono (by omega)
  · have := hc.fillN ⟨tmpB, (v.create tmpB m0 m1 m2 m3).1.1, v.round, false⟩ data (nP data) 0
    exact this.mono (by omega)
theorem Vf.exch {v : Vs} {k : Nat} (h : Vf v k) (name data : ByteArray) (hk : k + nP data + 4 < 2097151) (m0 m1 m2 m3 : Int) : Vf (v.exch name data m0 m1 m2 m3).2 (k + nP data + 4) := by
  have hc := h.written (by omega) data m0 m1 m2 m3
  have hn : Vf (Vs.named (v.written data m0 m1 m2 m3) name).2 (k + nP data + 3) := by
    unfold Vs.named
    split
    · exact hc.mono (by omega)
    · exact (hc.rename (by omega) _ _).mono (by omega)
  unfold Vs.exch Vs.undone
  split
  · exact (hn.remove (by omega) _).mono (by omega)
  · exact hn.mono (by omega)
theorem Vf.replace {v : Vs} {k : Nat} (h : Vf v k) (name data : ByteArray) (hk : k + nP data + 6 < 2097151) (m0 m1 m2 m3 : Int) : Vf (v.replace name data m0 m1 m2 m3).2 (k + nP data + 6) := by
  unfold Vs.replace
  split
  · exact h.mono (by omega)
  · split
    · exact h.mono (by omega)
    · split
      · exact h.syncDir.mono (by omega)
      · have hx := h.syncDir.exch name data (by omega) m0 m1 m2 m3
        unfold Vs.lastly
        split
        · exact hx.mono (by omega)
        · split <;> exact hx.syncDir.mono (by omega)
/-- A file as it is seen. -/
abbrev Fil := ByteArray × (Int × Int × Int × Int) × ByteArray
def lookB (bs : List Bd) (n : Nat) : Bd := (bs[n - 1]?).getD noBd
def filB (n : ByteArray) (b : Bd) : Fil := (n, (b.date, b.uid, b.gid, b.mode), b.data)
def filOf (bs : List Bd) (e : ByteArray × Nat) : Fil := filB e.1 (lookB bs e.2)
def seen (bs : List Bd) (d : Dr) : List Fil := (without d tmpB).map (filOf bs)
def insF (x : Fil) : List Fil → List Fil
  | [] => [x]
  | e :: r => if ltB x.1 e.1 = true then x :: e :: r else e :: insF x r
def othersF (l : List Fil) (n : ByteArray) : List Fil := l.filter fun e => decide (e.1 ≠ n)
def thatF (l : List Fil) (n : ByteArray) : List Fil := l.filter fun e => decide (e.1 = n)
def newF (l : List Fil) (x : Fil) : List Fil := insF x (othersF l x.1)
def sizeF (l : List Fil) : Nat := (l.map fun e => e.2.2.size).sum
theorem insF_others (x : Fil) (l : List Fil) : othersF (insF x l) x.1 = othersF l x.1 := by
  induction l with
  | nil => simp [insF, othersF]
  | cons e r ih =>
    unfold insF
    split
    · simp [othersF]
    · simp only [othersF, List.filter_cons] at ih ⊢
      rw [ih]
theorem newF_others (l : List Fil) (x : Fil) : othersF (newF l x) x.1 = othersF l x.1 := by
  unfold newF; rw [insF_others]; simp [othersF]
theorem insF_that (x : Fil) (l : List Fil) (h : ∀ e ∈ l, e.1 ≠ x.1) : thatF (insF x l) x.1 = [x] := by
  induction l with
  | nil => simp [insF, thatF]
  | cons e r ih =>
    have h0 := h e (by simp)
    have hr : ∀ y ∈ r, y.1 ≠ x.1 := fun y hy => h y (List.mem_cons_of_mem _ hy)
    have hn : thatF r x.1 = [] := by
      unfold thatF; rw [List.filter_eq_nil_iff]; intro y hy; simpa using hr y hy
    unfold insF
    split
    · unfold thatF at hn ⊢
      simp [h0, hn]
    · have := ih hr
      unfold thatF at this ⊢
      rw [List.filter_cons, if_neg (by simpa using h0), this]
theorem newF_that (l : List Fil) (x : Fil) : thatF (newF l x) x.1 = [x] :=
  insF_that x _ fun e he => by simpa using (List.mem_filter.1 he).2
theorem map_ins (bs : List Bd) (n : ByteArray) (b : Nat) (d : Dr) : (ins n b d).map (filOf bs) = insF (filOf bs (n, b)) (d.map (filOf bs)) := by
  induction d with
  | nil => rfl
  | cons e r ih =>
    unfold ins
    rw [List.map_cons]
    unfold insF
    by_cases h : ltB n e.1 = true
    · have h' : ltB (filOf bs (n, b)).1 (filOf bs e).1 = true := h
      rw [if_pos h, if_pos h']; rfl
    · have h' : ¬ ltB (filOf bs (n, b)).1 (filOf bs e).1 = true := h
      rw [if_neg h, if_neg h', List.map_cons, ih]
theorem map_without (bs : List Bd) (d : Dr) (n : ByteArray) : (without d n).map (filOf bs) = othersF (d.map (filOf bs)) n := by
  unfold without othersF
  rw [List.filter_map]; rfl
theorem without_without (d : Dr) (n : ByteArray) : without (without d n) n = without d n := by
  unfold without; rw [List.filter_filter]; simp
theorem without_ins (n : ByteArray) (b : Nat) (d : Dr) : without (ins n b d) n = without d n := by
  induction d with
  | nil => simp [ins, without]
  | cons e r ih =>
    unfold ins
    split
    · simp [without]
    · simp only [without, List.filter_cons] at ih ⊢
      rw [ih]
theorem without_with (d : Dr) (n : ByteArray) (b : Nat) : without (with_ d n b) n = without d n := by
  unfold with_; rw [without_ins, without_without]
theorem without_self {d : Dr} {n : ByteArray} (h : ∀ e ∈ d, e.1 ≠ n) : without d n = d := by
  unfold without; rw [List.filter_eq_self]; intro e he; simpa using h e he
/-- The directory behind the change of the name. -/
theorem seen_named (bs : List Bd) (d : Dr) (name : ByteArray) (n : Nat) (hne : name ≠ tmpB) : seen bs (with_ (without d tmpB) name n) = newF (seen bs d) (filOf bs (name, n)) := by
  unfold seen
  have h : without (with_ (without d tmpB) name n) tmpB = with_ (without d tmpB) name n := without_self fun e he => by
    rcases ins_mem _ _ _ _ he with rfl | he
    · exact hne
    · exact without_name _ _ e (without_mem _ _ _ he)
  rw [h]
  unfold with_ newF
  rw [map_ins, map_without]; rfl
theorem seen_congr {bs bs' : List Bd} {d : Dr} (h : ∀ e ∈ d, e.1 ≠ tmpB → lookB bs' e.2 = lookB bs e.2) : seen bs' d = seen bs d := by
  unfold seen
  apply List.map_congr_left
  intro e he
  unfold filOf
  rw [h e (without_mem _ _ _ he) (without_name _ _ e he)]
theorem szOf_look (bs : List Bd) (n : Nat) : szOf bs n = (lookB bs n).data.size := by
  unfold szOf lookB
  cases h : bs[n - 1]?
  · rfl
  · rfl
theorem used_seen (bs : List Bd) (d : Dr) : usedIn bs (without d tmpB) = sizeF (seen bs d) := by
  unfold usedIn sizeF seen
  rw [List.map_map]
  congr 1
  apply List.map_congr_left
  intro e he
  exact szOf_look bs e.2
theorem used_perm (bs : List Bd) {d d' : Dr} (h : d.Perm d') : usedIn bs d = usedIn bs d' := by
  unfold usedIn
  exact (h.map _).sum_nat
theorem used_with (bs : List Bd) (d : Dr) (b : Nat) : usedIn bs (with_ d tmpB b) = szOf bs b + sizeF (seen bs d) := by
  unfold with_
  rw [used_perm bs (ins_perm tmpB b (without d tmpB))]
  have : usedIn bs ((tmpB, b) :: without d tmpB) = szOf bs b + usedIn bs (without d tmpB) := by simp [usedIn]
  rw [this, used_seen]
end Go.Proofs.YtofmiaaglbcebaaGreatDoor

-- What every directory since the last SyncDir shows, through the calls of a replacement.
namespace Go.Proofs.YtofmiaaglbcebaaGreatDoor
open Go
set_option linter.unusedVariables false
def firmN (bs : List Bd) (n : Nat) : Prop := (lookB bs n).safe = (lookB bs n).data.size
structure Sc (st : St) (S : List (List Fil)) : Prop where
  wf : Wf st
  dw : DW st
  firm : ∀ d ∈ st.dirs, ∀ e ∈ d, e.1 ≠ tmpB → firmN st.bodies e.2
  sees : st.dirs.map (seen st.bodies) = S
def lastS (S : List (List Fil)) : List Fil := S.getLast?.getD []
theorem lastS_snoc (S : List (List Fil)) (l : List Fil) : lastS (S ++ [l]) = l := by simp [lastS]
theorem Sc.now {st : St} {S : List (List Fil)} (h : Sc st S) : seen st.bodies st.now = lastS S := by
  unfold lastS St.now
  rw [← h.sees, List.getLast?_map]
  cases hl : st.dirs.getLast? with
  | none => exact absurd (List.getLast?_eq_none_iff.1 hl) h.wf.ne
  | some d => rfl
theorem Sc.syncDir {st : St} {S : List (List Fil)} (h : Sc st S) : Sc st.syncDir [lastS S] where
  wf := (syncDir_fine h.wf).wf
  dw := fun d hd => by simp [St.syncDir] at hd; subst hd; exact h.dw _ (now_mem h.wf)
  firm := fun d hd => by simp [St.syncDir] at hd; subst hd; exact h.firm _ (now_mem h.wf)
  sees := by show [seen st.bodies st.now] = _; rw [h.now]
theorem look_append {bs : List Bd} {b : Bd} {n : Nat} (h1 : 1 ≤ n) (h2 : n ≤ bs.length) : lookB (bs ++ [b]) n = lookB bs n := by
  unfold lookB; rw [List.getElem?_append_left (by omega)]
theorem look_new (bs : List Bd) (b : Bd) : lookB (bs ++ [b]) (bs.length + 1) = b := by
  unfold lookB; simp
theorem look_set_other {bs : List Bd} {b : Bd} {i n : Nat} (h : n - 1 ≠ i) : lookB (bs.set i b) n = lookB bs n := by
  unfold lookB; rw [List.getElem?_set_ne (fun e => h e.symm)]
theorem now_snoc (c : Nat) (bs : List Bd) (ds : List Dr) (d : Dr) : St.now ⟨c, bs, ds ++ [d]⟩ = d := by simp [St.now]
/-- A directory more. -/
theorem Sc.add {st : St} {S : List (List Fil)} (h : Sc st S) {d : Dr} (hl : st.dirs.length < 2097152) (h1 : d.length ≤ 64) (h2 : ∀ e ∈ d, 1 ≤ e.2 ∧ e.2 ≤ st.bodies.length) (hd : Dw d) (hf : ∀ e ∈ d, e.1 ≠ tmpB → firmN st.bodies e.2) : Sc { st with dirs := st.dirs ++ [d] } (S ++ [seen st.bodies d]) where
  wf := h.wf.dir d h1 h2 hl
  dw := h.dw.add hd
  firm := fun x hx => by
    rcases List.mem_append.1 hx with hx | hx
    · exact h.firm x hx
    · simp at hx; subst hx; exact hf
  sees := by show (st.dirs ++ [d]).map _ = _; rw [List.map_append, h.sees]; rfl
/-- Other bodies, the same for all but TempName. -/
theorem Sc.bods {st : St} {S : List (List Fil)} (h : Sc st S) {bs : List Bd} (hw : Wf { st with bodies := bs }) (hb : ∀ d ∈ st.dirs, ∀ e ∈ d, e.1 ≠ tmpB → lookB bs e.2 = lookB st.bodies e.2) : Sc { st with bodies := bs } S where
  wf := hw
  dw := h.dw
  firm := fun d hd e he hn => by
    have := h.firm d hd e he hn
    unfold firmN at this ⊢
    rw [hb d hd e he hn]; exact this
  sees := by
    show st.dirs.map (seen bs) = S
    rw [← h.sees]
    apply List.map_congr_left
    intro d hd
    exact seen_congr fun e he hn => hb d hd e he hn
/-- The file TempName and its body. -/
structure Tm (st : St) (L : List Fil) (n : Nat) (b : Bd) : Prop where
  only : ∀ d ∈ st.dirs, ∀ e ∈ d, e.2 = n → e.1 = tmpB
  lead : (tmpB, n) ∈ st.now
  body : st.bodies[n - 1]? = some b
  pos : 1 ≤ n
  used : st.used = sizeF L + b.data.size
theorem sc_create {st : St} {S : List (List Fil)} (h : Sc st S) (hb : st.bodies.length < 2097152) (hl : st.dirs.length < 2097152) (m0 m1 m2 m3 : Int) (hfull : ¬ (leads st.now tmpB = 0 ∧ 64 ≤ st.now.length)) :
    (st.create tmpB m0 m1 m2 m3).1 = (st.bodies.length + 1, 0) ∧ Sc (st.create tmpB m0 m1 m2 m3).2 (S ++ [lastS S]) ∧ Tm (st.create tmpB m0 m1 m2 m3).2 (lastS S) (st.bodies.length + 1) ⟨m0, m1, m2, m3, ⟨#[]⟩, 0⟩ ∧ (st.create tmpB m0 m1 m2 m3).2.cap = st.cap := by
  have hfine := create_fine h.wf tmpB m0 m1 m2 m3 hb hl
  have hnow := h.dw.now h.wf
  have hlow : ∀ d ∈ st.dirs, ∀ e ∈ d, 1 ≤ e.2 ∧ e.2 ≤ st.bodies.length := fun d hd e he => h.wf.led d hd e he
  have hst : st.create tmpB m0 m1 m2 m3 = ((st.bodies.length + 1, 0), { st with bodies := st.bodies ++ [⟨m0, m1, m2, m3, ⟨#[]⟩, 0⟩], dirs := st.dirs ++ [with_ st.now tmpB (st.bodies.length + 1)] }) := by
    unfold St.create
    rw [if_neg (by rw [tmp_ok]; decide), if_neg hfull]
  have hwf := hfine.wf
  rw [hst] at hwf ⊢
  have hlook : ∀ d ∈ st.dirs, ∀ e ∈ d, lookB (st.bodies ++ [⟨m0, m1, m2, m3, ⟨#[]⟩, 0⟩]) e.2 = lookB st.bodies e.2 := fun d hd e he => look_append (hlow d hd e he).1 (hlow d hd e he).2
  have hdw : Dw (with_ st.now tmpB (st.bodies.length + 1)) := dw_with hnow tmpB _ tmp_ok fun e he _ => by
    have := (hlow _ (now_mem h.wf) e he).2; omega
  have hseen : seen (st.bodies ++ [⟨m0, m1, m2, m3, ⟨#[]⟩, 0⟩]) (with_ st.now tmpB (st.bodies.length + 1)) = lastS S := by
    rw [← h.now]
    unfold seen
    rw [without_with]
    exact seen_congr fun e he hn => hlook _ (now_mem h.wf) e he
  refine ⟨rfl, ⟨hwf, ?_, ?_, ?_⟩, ⟨?_, ?_, ?_, by omega, ?_⟩, rfl⟩
  · intro d hd
    rcases List.mem_append.1 hd with hd | hd
    · exact h.dw d hd
    · simp at hd; subst hd; exact hdw
  · intro d hd e he hn
    rcases List.mem_append.1 hd with hd | hd
    · show firmN (st.bodies ++ [_]) e.2
      unfold firmN; rw [hlook d hd e he]; exact h.firm d hd e he hn
    · simp at hd; subst hd
      rcases ins_mem _ _ _ _ he with rfl | he
      · exact absurd rfl hn
      · have he' := without_mem _ _ _ he
        show firmN (st.bodies ++ [_]) e.2
        unfold firmN; rw [hlook _ (now_mem h.wf) e he']; exact h.firm _ (now_mem h.wf) e he' hn
  · show (st.dirs ++ [with_ st.now tmpB (st.bodies.length + 1)]).map _ = _
    rw [List.map_append, List.map_cons, List.map_nil, hseen, ← h.sees]
    congr 1
    apply List.map_congr_left
    intro d hd
    exact seen_congr fun e he hn => hlook d hd e he
  · intro d hd e he hn
    rcases List.mem_append.1 hd with hd | hd
    · have := (hlow d hd e he).2; omega
    · simp at hd; subst hd
      rcases ins_mem _ _ _ _ he with rfl | he
      · rfl
      · have := (hlow _ (now_mem h.wf) e (without_mem _ _ _ he)).2; omega
  · show (tmpB, st.bodies.length + 1) ∈ St.now ⟨_, _, st.dirs ++ [_]⟩
    rw [now_snoc]
    exact (ins_perm _ _ _).mem_iff.2 (by simp)
  · simp
  · unfold St.used
    show usedIn _ (St.now ⟨_, _, st.dirs ++ [_]⟩) = _
    rw [now_snoc]
    show usedIn (st.bodies ++ [_]) (with_ st.now tmpB (st.bodies.length + 1)) = _
    rw [used_with, szOf_look, look_new]
    have : seen (st.bodies ++ [⟨m0, m1, m2, m3, ⟨#[]⟩, 0⟩]) st.now = lastS S := by
      rw [← h.now]; exact seen_congr fun e he hn => hlook _ (now_mem h.wf) e he
    rw [this]; exact Nat.add_comm _ _
theorem Tm.at {st : St} {L : List Fil} {n : Nat} {b : Bd} (t : Tm st L n b) : st.at_ (n : Int) = some b := by
  unfold St.at_
  have : there st.now (n : Int) = true := by
    unfold there; rw [List.any_eq_true]; exact ⟨_, t.lead, by simp⟩
  rw [if_pos this, Int.toNat_natCast]; exact t.body
/-- TempName's body is put anew. -/
theorem Tm.put {st : St} {S : List (List Fil)} {L : List Fil} {n : Nat} {b : Bd} (h : Sc st S) (t : Tm st L n b) (b' : Bd) (hb : b'.data.size ≤ 1073741824 ∧ b'.safe ≤ b'.data.size) : Sc (st.put n b') S ∧ Tm (st.put n b') L n b' := by
  have hlow : ∀ d ∈ st.dirs, ∀ e ∈ d, 1 ≤ e.2 ∧ e.2 ≤ st.bodies.length := fun d hd e he => h.wf.led d hd e he
  have hp := t.pos
  have hlt : n - 1 < st.bodies.length := (List.getElem?_eq_some_iff.1 t.body).1
  have hi : ((n : Int)).toNat - 1 = n - 1 := by rw [Int.toNat_natCast]
  have hw := h.wf.put (n : Int) b' hb
  refine ⟨h.bods hw fun d hd e he hn => ?_, ⟨t.only, t.lead, ?_, t.pos, ?_⟩⟩
  · rw [hi]
    refine look_set_other ?_
    have h1 := (hlow d hd e he).1
    intro e2
    exact hn (t.only d hd e he (by omega))
  · show (st.bodies.set _ b')[n - 1]? = _
    rw [hi, List.getElem?_set_self hlt]
  · have hu := usedIn_set st.bodies st.now (n - 1) b b' t.body (h.dw.now h.wf).unlike (fun e he => (hlow _ (now_mem h.wf) e he).1) ⟨_, t.lead, by show n = _; omega⟩
    have h0 := t.used
    unfold St.used at h0
    show usedIn (st.bodies.set _ b') st.now = _
    rw [hi]; omega
theorem Tm.append {st : St} {S : List (List Fil)} {L : List Fil} {n : Nat} {b : Bd} (h : Sc st S) (t : Tm st L n b) (data : ByteArray) :
    (data ≠ ⟨#[]⟩ ∧ st.cap < sizeF L + b.data.size + data.size → st.append n data = (31, st)) ∧
    (¬ (data ≠ ⟨#[]⟩ ∧ st.cap < sizeF L + b.data.size + data.size) → (st.append n data).1 = 0 ∧ Sc (st.append n data).2 S ∧ Tm (st.append n data).2 L n { b with data := b.data ++ data } ∧ (st.append n data).2.cap = st.cap) := by
  have hf := append_fine h.wf n data
  have e : st.append n data = if data ≠ ⟨#[]⟩ ∧ st.cap < sizeF L + b.data.size + data.size then (31, st) else (0, st.put n { b with data := b.data ++ data }) := by
    unfold St.append; rw [t.at]; simp only [t.used]
  refine ⟨fun hc => by rw [e, if_pos hc], fun hc => ?_⟩
  rw [e, if_neg hc] at hf ⊢
  have hbm := hf.wf.bod { b with data := b.data ++ data } (by
    show _ ∈ st.bodies.set _ _
    rw [Int.toNat_natCast]
    exact List.mem_or_eq_of_mem_set (l := st.bodies.set (n - 1) { b with data := b.data ++ data }) (i := n - 1) (b := { b with data := b.data ++ data }) (by
      rw [List.set_set]
      exact List.mem_set (List.getElem?_eq_some_iff.1 t.body).1 _) |>.elim id (fun e => by
        exact List.mem_set (List.getElem?_eq_some_iff.1 t.body).1 _))
  obtain ⟨h1, h2⟩ := Tm.put h t { b with data := b.data ++ data } hbm
  exact ⟨rfl, h1, h2, rfl⟩
theorem Tm.sync {st : St} {S : List (List Fil)} {L : List Fil} {n : Nat} {b : Bd} (h : Sc st S) (t : Tm st L n b) :
    (st.sync n).1 = 0 ∧ Sc (st.sync n).2 S ∧ Tm (st.sync n).2 L n { b with safe := b.data.size } ∧ (st.sync n).2.cap = st.cap := by
  have e : st.sync n = (0, st.put n { b with safe := b.data.size }) := by unfold St.sync; rw [t.at]
  rw [e]
  have hbm := h.wf.bod b (List.mem_of_getElem? t.body)
  obtain ⟨h1, h2⟩ := Tm.put h t { b with safe := b.data.size } ⟨hbm.1, Nat.le_refl _⟩
  exact ⟨rfl, h1, h2, rfl⟩
theorem tm_leads {st : St} {S : List (List Fil)} {L : List Fil} {n : Nat} {b : Bd} (h : Sc st S) (t : Tm st L n b) : leads st.now tmpB = n :=
  dw_leads (h.dw.now h.wf) t.lead fun f hf => by have := (h.wf.led _ (now_mem h.wf) f hf).1; omega
theorem Tm.rename {st : St} {S : List (List Fil)} {L : List Fil} {n : Nat} {b : Bd} (h : Sc st S) (t : Tm st L n b) (hf : b.safe = b.data.size) (name : ByteArray) (hne : name ≠ tmpB) (hok : okName name = true) (hl : st.dirs.length < 2097152) :
    (st.rename tmpB name).1 = 0 ∧ Sc (st.rename tmpB name).2 (S ++ [newF (lastS S) (filB name b)]) := by
  have hlow := h.wf.led _ (now_mem h.wf)
  have hle := tm_leads h t
  have hp := t.pos
  have hlt : n - 1 < st.bodies.length := (List.getElem?_eq_some_iff.1 t.body).1
  have hfine := rename_fine h.wf tmpB name hl
  have e : st.rename tmpB name = (0, { st with dirs := st.dirs ++ [with_ (without st.now tmpB) name n] }) := by
    unfold St.rename
    rw [if_neg (by rw [tmp_ok, hok]; decide), if_neg (by rw [hle]; omega), if_neg (fun e => hne e.symm), hle]
  rw [e] at hfine ⊢
  have hlook : lookB st.bodies n = b := by unfold lookB; rw [t.body]; rfl
  have hmem : ∀ x ∈ with_ (without st.now tmpB) name n, x = (name, n) ∨ (x ∈ st.now ∧ x.1 ≠ tmpB) := fun x hx => by
    rcases ins_mem _ _ _ _ hx with rfl | hx
    · exact .inl rfl
    · have h1 := without_mem _ _ _ hx
      exact .inr ⟨without_mem _ _ _ h1, without_name _ _ _ h1⟩
  refine ⟨rfl, ?_⟩
  have hs := seen_named st.bodies st.now name n hne
  rw [h.now] at hs
  have hfo : filOf st.bodies (name, n) = filB name b := by unfold filOf; rw [hlook]
  rw [hfo] at hs
  rw [← hs]
  have hd : with_ (without st.now tmpB) name n ∈ st.dirs ++ [with_ (without st.now tmpB) name n] := by simp
  refine h.add hl (hfine.wf.few _ hd) (hfine.wf.led _ hd) ?_ ?_
  · refine dw_with (dw_without (h.dw.now h.wf) tmpB) name n hok fun x hx _ e2 => ?_
    exact without_name _ _ x hx (t.only _ (now_mem h.wf) x (without_mem _ _ _ hx) e2)
  · intro x hx hn
    rcases hmem x hx with rfl | ⟨h1, h2⟩
    · unfold firmN; rw [hlook]; exact hf
    · exact h.firm _ (now_mem h.wf) x h1 h2
theorem sc_remove {st : St} {S : List (List Fil)} (h : Sc st S) (hl : st.dirs.length < 2097152) : ∃ S', Sc (st.remove tmpB).2 S' ∧ (∀ l ∈ S', l ∈ S ∨ l = lastS S) := by
  have hfine := remove_fine h.wf tmpB hl
  unfold St.remove at hfine ⊢
  rw [if_neg (by rw [tmp_ok]; decide)] at hfine ⊢
  split
  · exact ⟨S, h, fun l hl => .inl hl⟩
  · rename_i hle
    rw [if_neg hle] at hfine
    have hd : without st.now tmpB ∈ st.dirs ++ [without st.now tmpB] := by simp
    refine ⟨_, h.add hl (hfine.wf.few _ hd) (hfine.wf.led _ hd) (dw_without (h.dw.now h.wf) tmpB) (fun x hx hn => h.firm _ (now_mem h.wf) x (without_mem _ _ _ hx) hn), fun l hl => ?_⟩
    rcases List.mem_append.1 hl with hl | hl
    · exact .inl hl
    · simp at hl
      refine .inr ?_
      rw [hl, ← h.now]
      unfold seen; rw [without_without]
theorem cutTo_firm (cuts : List Int) (d : Dr) (bs : List Bd) (n : Nat) (hn : 1 ≤ n) (h : ∀ e ∈ d, e.2 = n → firmN bs n) (hp : ∀ e ∈ d, 1 ≤ e.2) (k : Nat) : (cutTo cuts d bs k)[n - 1]? = bs[n - 1]? := by
  induction k with
  | zero => rfl
  | succ k ih =>
    simp only [cutTo]
    cases hk : d[k]? with
    | none => exact ih
    | some e =>
      simp only
      have he := List.mem_of_getElem? hk
      have h1 := hp e he
      by_cases h2 : e.2 = n
      · have hf := h e he h2
        rw [h2, ih]
        cases hx : bs[n - 1]? with
        | none => simp only; rw [ih, hx]
        | some x =>
          simp only
          have hl : lookB bs n = x := by unfold lookB; rw [hx]; rfl
          unfold firmN at hf
          rw [hl] at hf
          have hcut : cutB cuts k x = x := by
            obtain ⟨x0, x1, x2, x3, xd, xs⟩ := x
            simp only at hf
            unfold cutB
            have hc := cutOf_le cuts k (xd.size - xs)
            have hz : xs + cutOf cuts k (xd.size - xs) = xd.size := by simp only [hf] at hc ⊢; omega
            simp only [hz, ByteArray.extract_zero_size]
            rw [hf]
          rw [hcut]
          have hlt : n - 1 < (cutTo cuts d bs k).length := by rw [cutTo_len]; exact (List.getElem?_eq_some_iff.1 hx).1
          rw [List.getElem?_set_self hlt]
      · cases hx : (cutTo cuts d bs k)[e.2 - 1]? with
        | none => exact ih
        | some x =>
          simp only
          rw [List.getElem?_set_ne (by omega)]; exact ih
theorem sc_crash {st : St} {S : List (List Fil)} (h : Sc st S) (n : Int) (cuts : List Int) : Sc (st.crash n cuts) [(S[(within n 0 ((S.length - 1 : Nat) : Int)).toNat]?).getD []] := by
  obtain ⟨m, h1, h2, h3⟩ := cutDir_get h.wf n
  have hd := List.mem_of_getElem? h3
  have hlen : S.length = st.dirs.length := by rw [← h.sees, List.length_map]
  have hfine := crash_fine h.wf n cuts
  have hlook : ∀ e ∈ st.cutDir n, e.1 ≠ tmpB → lookB (cutTo cuts (st.cutDir n) st.bodies (st.cutDir n).length) e.2 = lookB st.bodies e.2 := fun e he hn => by
    unfold lookB
    rw [cutTo_firm cuts (st.cutDir n) st.bodies e.2 (h.wf.led _ hd e he).1 (fun f hf h2 => ?_) (fun f hf => (h.wf.led _ hd f hf).1)]
    have := dw_uniqB (h.dw _ hd) hf he h2
    subst this
    exact h.firm _ hd f hf hn
  refine ⟨hfine.wf, ?_, ?_, ?_⟩
  · intro d hd'
    simp [St.crash] at hd'; subst hd'
    exact h.dw _ hd
  · intro d hd' e he hn
    simp [St.crash] at hd'; subst hd'
    show firmN (cutTo _ _ _ _) e.2
    unfold firmN
    rw [hlook e he hn]; exact h.firm _ hd e he hn
  · show [seen (cutTo cuts (st.cutDir n) st.bodies (st.cutDir n).length) (st.cutDir n)] = _
    rw [seen_congr hlook, hlen, h1, Int.toNat_natCast, ← h.sees, List.getElem?_map, h3]; rfl
end Go.Proofs.YtofmiaaglbcebaaGreatDoor

-- What Replace answers hangs on the plan, the room and the number of files alone; and what it leaves.
namespace Go.Proofs.YtofmiaaglbcebaaGreatDoor
open Go
set_option linter.unusedVariables false
theorem met_on (c : Vs) (s : St) : (c.on s).met = (c.met.1, c.met.2.on s) := by
  obtain ⟨st, plan, cnt, off, rd⟩ := c
  cases off with
  | true => rfl
  | false =>
    unfold Vs.met
    show (match Vs.strikes _ with | none => _ | some f => _) = _
    have : Vs.strikes (Vs.on ⟨st, plan, cnt, false, rd⟩ s) = Vs.strikes ⟨st, plan, cnt, false, rd⟩ := rfl
    rw [this]
    simp only [Bool.false_eq_true, if_false]
    cases Vs.strikes ⟨st, plan, cnt, false, rd⟩ with
    | none => rfl
    | some f => simp only; split <;> rfl
theorem short_on (c : Vs) (s : St) : (c.on s).short = c.short := rfl
theorem met_round (c : Vs) : c.met.2.round = c.round := by
  unfold Vs.met
  split
  · rfl
  · split
    · rfl
    · split <;> rfl
theorem met_num (c : Vs) : c.met.1 = 0 ∨ c.met.1 = 40 ∨ c.met.1 = 41 := by
  unfold Vs.met
  split
  · exact .inr (.inr rfl)
  · split
    · exact .inl rfl
    · split
      · exact .inr (.inr rfl)
      · exact .inr (.inl rfl)
def Vs.ctlFill (U cap : Nat) (data : ByteArray) : Nat → Nat → Vs → Nat × Vs
  | 0, _, c => c.met
  | n + 1, k, c =>
    if c.met.1 = 0 then (if cap < U + k * 512 + (pieceOf data k).size then (31, c.met.2) else Vs.ctlFill U cap data n (k + 1) c.met.2)
    else match c.short with
      | none => c.met
      | some j => (if part (pieceOf data k) j ≠ ⟨#[]⟩ ∧ cap < U + k * 512 + (part (pieceOf data k) j).size then 31 else c.met.1, c.met.2)
def Vs.ctlWritten (U cap : Nat) (full : Bool) (data : ByteArray) (c : Vs) : Nat × Vs :=
  if c.met.1 ≠ 0 then c.met else if full = true then (33, c.met.2) else Vs.ctlFill U cap data (nP data) 0 c.met.2
def Vs.ctlExch (U cap : Nat) (full : Bool) (data : ByteArray) (c : Vs) : Nat × Vs :=
  if (Vs.ctlWritten U cap full data c).1 ≠ 0 then ((Vs.ctlWritten U cap full data c).1, (Vs.ctlWritten U cap full data c).2.met.2)
  else if (Vs.ctlWritten U cap full data c).2.met.1 ≠ 0 then ((Vs.ctlWritten U cap full data c).2.met.1, (Vs.ctlWritten U cap full data c).2.met.2.met.2)
  else (0, (Vs.ctlWritten U cap full data c).2.met.2)
def Vs.ctl (U cap : Nat) (full : Bool) (data : ByteArray) (c : Vs) : Nat × Vs :=
  if c.met.1 ≠ 0 then c.met
  else if (Vs.ctlExch U cap full data c.met.2).1 ≠ 0 then Vs.ctlExch U cap full data c.met.2
  else if (Vs.ctlExch U cap full data c.met.2).2.met.1 ≠ 0 then (160, (Vs.ctlExch U cap full data c.met.2).2.met.2)
  else (0, (Vs.ctlExch U cap full data c.met.2).2.met.2)
theorem piece_size {data : ByteArray} {k : Nat} : (pieceOf data k).size = min (k * 512 + 512) data.size - k * 512 := by
  unfold pieceOf; rw [ByteArray.size_extract]; omega
theorem nP_lt {data : ByteArray} {k : Nat} (h : k < nP data) : k * 512 < data.size := by unfold nP at h; omega
theorem nP_ge {data : ByteArray} {k : Nat} (h : nP data ≤ k) : data.size ≤ k * 512 := by unfold nP at h; omega
theorem piece_ne {data : ByteArray} {k : Nat} (h : k < nP data) : pieceOf data k ≠ ⟨#[]⟩ := fun e => by
  have h1 := nP_lt h
  have h2 : (pieceOf data k).size = 0 := by rw [e]; rfl
  rw [piece_size] at h2; omega
theorem piece_add {data : ByteArray} {k : Nat} (h : k < nP data) : data.extract 0 (min (k * 512) data.size) ++ pieceOf data k = data.extract 0 (min ((k + 1) * 512) data.size) := by
  have h1 := nP_lt h
  unfold pieceOf
  rw [show min (k * 512) data.size = k * 512 by omega, ByteArray.extract_append_extract, show min 0 (k * 512) = 0 by omega, show max (k * 512) (min (k * 512 + 512) data.size) = min ((k + 1) * 512) data.size by omega]
theorem beg_size {data : ByteArray} {k : Nat} (h : k < nP data) : (data.extract 0 (min (k * 512) data.size)).size = k * 512 := by
  have h1 := nP_lt h
  rw [ByteArray.size_extract]; omega
theorem beg_all {data : ByteArray} : data.extract 0 (min (nP data * 512) data.size) = data := by
  have h1 : data.size ≤ nP data * 512 := nP_ge (Nat.le_refl _)
  rw [show min (nP data * 512) data.size = data.size by omega, ByteArray.extract_zero_size]
/-- What stays of a volume's numbers. -/
structure Like (s s' : St) : Prop where
  cap : s'.cap = s.cap
  dirs : s'.dirs.length = s.dirs.length
theorem append_like (s : St) (n : Int) (data : ByteArray) : Like s (s.append n data).2 := by
  unfold St.append
  split
  · exact ⟨rfl, rfl⟩
  · split <;> exact ⟨rfl, rfl⟩
theorem sync_like (s : St) (n : Int) : Like s (s.sync n).2 := by
  unfold St.sync
  split <;> exact ⟨rfl, rfl⟩
theorem Like.trans {a b c : St} (h : Like a b) (k : Like b c) : Like a c := ⟨k.cap.trans h.cap, k.dirs.trans h.dirs⟩
theorem fill_ctl (data : ByteArray) (x : Hd) (L : List Fil) (S : List (List Fil)) (n : Nat) : ∀ (k : Nat) (c : Vs) (s : St) (b : Bd), k + n = nP data → x.shut = false → x.round = c.round → Sc s S → Tm s L x.body b → b.data = data.extract 0 (min (k * 512) data.size) →
    ∃ s' a, Vs.fillN x data n k (c.on s) = (((Vs.ctlFill (sizeF L) s.cap data n k c).1, a), (Vs.ctlFill (sizeF L) s.cap data n k c).2.on s') ∧ Sc s' S ∧ Like s s' ∧ ((Vs.ctlFill (sizeF L) s.cap data n k c).1 = 0 → Tm s' L x.body ⟨b.date, b.uid, b.gid, b.mode, data, data.size⟩) := by
  induction n with
  | zero =>
    intro k c s b hk hsh hr h t hb
    have hcl : x.closed (c.on s) = false := by
      unfold Hd.closed; rw [hsh]; show (false || decide (x.round ≠ c.round)) = false; rw [hr]; simp
    have hk' : k = nP data := by omega
    have hbd : b.data = data := by rw [hb, hk', beg_all]
    unfold Vs.fillN Vs.ctlFill
    have e : (c.on s).sync x = if c.met.1 ≠ 0 then (c.met.1, c.met.2.on s) else ((s.sync x.body).1, c.met.2.on (s.sync x.body).2) := by
      unfold Vs.sync; rw [if_neg (by rw [hcl]; decide)]; unfold Vs.syncB; rw [met_on]; rfl
    rw [e]
    obtain ⟨t1, t2, t3, t4⟩ := t.sync h
    by_cases hm : c.met.1 = 0
    · rw [if_neg (by simp [hm])]
      refine ⟨(s.sync x.body).2, 5, by rw [t1, hm], t2, sync_like _ _, fun _ => ?_⟩
      rw [hbd] at t3
      exact t3
    · rw [if_pos hm]
      exact ⟨s, 5, rfl, h, ⟨rfl, rfl⟩, fun e => absurd e hm⟩
  | succ n ih =>
    intro k c s b hk hsh hr h t hb
    have hkn : k < nP data := by omega
    have hcl : x.closed (c.on s) = false := by
      unfold Hd.closed; rw [hsh]; show (false || decide (x.round ≠ c.round)) = false; rw [hr]; simp
    have hbs : b.data.size = k * 512 := by rw [hb, beg_size hkn]
    have hcon : (c.on s).st = s := rfl
    have e : (c.on s).write x (pieceOf data k) = (c.on s).writeB x.body (pieceOf data k) := by
      unfold Vs.write; rw [if_neg (by rw [hcl]; decide)]
    unfold Vs.fillN Vs.ctlFill
    rw [e]
    obtain ⟨a1, a2⟩ := t.append h (pieceOf data k)
    rw [hbs] at a1 a2
    by_cases hm : c.met.1 = 0
    · rw [if_pos hm]
      have ew : (c.on s).writeB x.body (pieceOf data k) = if (s.append x.body (pieceOf data k)).1 ≠ 0 then ((0, (s.append x.body (pieceOf data k)).1), c.met.2.on (s.append x.body (pieceOf data k)).2) else (((pieceOf data k).size, 0), c.met.2.on (s.append x.body (pieceOf data k)).2) := by
        unfold Vs.writeB; rw [met_on, if_pos hm]; rfl
      rw [ew]
      by_cases hc : s.cap < sizeF L + k * 512 + (pieceOf data k).size
      · have hq := a1 ⟨piece_ne hkn, hc⟩
        rw [hq, if_pos (show (31 : Nat) ≠ 0 by decide), if_pos (show (31 : Nat) ≠ 0 by decide), if_pos hc]
        exact ⟨s, 4, rfl, h, ⟨rfl, rfl⟩, fun e => absurd (show (31 : Nat) = 0 from e) (by decide)⟩
      · obtain ⟨q1, q2, q3, q4⟩ := a2 (fun hh => hc hh.2)
        rw [if_neg (show ¬ ((s.append x.body (pieceOf data k)).1 ≠ 0) by simp [q1]), if_neg (show ¬ ((0 : Nat) ≠ 0) by simp), if_neg hc]
        obtain ⟨s', a, r1, r2, r3, r4⟩ := ih (k + 1) c.met.2 (s.append x.body (pieceOf data k)).2 _ (by omega) hsh (by rw [met_round]; exact hr) q2 q3 (by show b.data ++ _ = _; rw [hb, piece_add hkn])
        rw [q4] at r1 r4
        exact ⟨s', a, r1, r2, (append_like _ _ _).trans r3, r4⟩
    · rw [if_neg hm]
      have ew : (c.on s).writeB x.body (pieceOf data k) = match c.short with
          | none => ((0, c.met.1), c.met.2.on s)
          | some j => if (s.append x.body (part (pieceOf data k) j)).1 ≠ 0 then ((0, (s.append x.body (part (pieceOf data k) j)).1), c.met.2.on (s.append x.body (part (pieceOf data k) j)).2) else (((part (pieceOf data k) j).size, c.met.1), c.met.2.on (s.append x.body (part (pieceOf data k) j)).2) := by
        unfold Vs.writeB; rw [met_on, if_neg hm]; rfl
      rw [ew]
      cases hsj : c.short with
      | none =>
        simp only
        rw [if_pos hm]
        exact ⟨s, 4, rfl, h, ⟨rfl, rfl⟩, fun e => absurd e hm⟩
      | some j =>
        simp only
        obtain ⟨b1, b2⟩ := t.append h (part (pieceOf data k) j)
        rw [hbs] at b1 b2
        by_cases hc : part (pieceOf data k) j ≠ ⟨#[]⟩ ∧ s.cap < sizeF L + k * 512 + (part (pieceOf data k) j).size
        · rw [b1 hc, if_pos (show (31 : Nat) ≠ 0 by decide), if_pos (show (31 : Nat) ≠ 0 by decide), if_pos hc]
          exact ⟨s, 4, rfl, h, ⟨rfl, rfl⟩, fun e => absurd (show (31 : Nat) = 0 from e) (by decide)⟩
        · obtain ⟨q1, q2, q3, q4⟩ := b2 hc
          rw [if_neg (show ¬ ((s.append x.body (part (pieceOf data k) j)).1 ≠ 0) by simp [q1]), if_pos hm, if_neg hc]
          exact ⟨_, 4, rfl, q2, append_like _ _ _, fun e => absurd e hm⟩
theorem ctlFill_num (U cap : Nat) (data : ByteArray) (n : Nat) : ∀ (k : Nat) (c : Vs), (Vs.ctlFill U cap data n k c).1 < 160 := by
  induction n with
  | zero => intro k c; unfold Vs.ctlFill; have := met_num c; omega
  | succ n ih =>
    intro k c
    have hm := met_num c
    unfold Vs.ctlFill
    split
    · split
      · exact (show (31 : Nat) < 160 by decide)
      · exact ih _ _
    · split
      · omega
      · show (if _ then 31 else c.met.1) < 160
        split <;> omega
/-- What Replace leaves. -/
def Left (e : Nat) (s' : St) (L : List Fil) (x : Fil) : Prop :=
  (e = 0 ∧ Sc s' [newF L x]) ∨ (e = 160 ∧ Sc s' [L, L, newF L x]) ∨ (e ≠ 0 ∧ e ≠ 160 ∧ ∃ S', Sc s' S' ∧ S' ≠ [] ∧ ∀ l ∈ S', l = L)
def isFull (s : St) : Bool := decide (leads s.now tmpB = 0 ∧ 64 ≤ s.now.length)
theorem Sc.ne {s : St} {S : List (List Fil)} (h : Sc s S) : S ≠ [] := fun e => by
  have := h.sees; rw [e] at this; exact h.wf.ne (by simpa using this)
theorem remove_on {c : Vs} {s : St} {S : List (List Fil)} {L : List Fil} (h : Sc s S) (hS : ∀ l ∈ S, l = L) (hl : s.dirs.length < 2097152) : ∃ s', ((c.on s).remove tmpB).2 = c.met.2.on s' ∧ ∃ S', Sc s' S' ∧ S' ≠ [] ∧ ∀ l ∈ S', l = L := by
  unfold Vs.remove
  rw [met_on]
  by_cases hm : c.met.1 = 0
  · rw [if_neg (by simp [hm])]
    obtain ⟨S', h1, h2⟩ := sc_remove h hl
    refine ⟨(s.remove tmpB).2, rfl, S', h1, h1.ne, fun l hl => ?_⟩
    rcases h2 l hl with h3 | h3
    · exact hS l h3
    · rw [h3]
      unfold lastS
      cases hg : S.getLast? with
      | none => exact absurd (List.getLast?_eq_none_iff.1 hg) h.ne
      | some y => exact hS y (List.mem_of_getLast? hg)
  · rw [if_pos hm]
    exact ⟨s, rfl, S, h, h.ne, hS⟩
theorem now_one (s : St) : s.syncDir.now = s.now := rfl
theorem rep_all (c : Vs) (s : St) (L : List Fil) (h : Sc s [L]) (hb : s.bodies.length < 2097151) (name data : ByteArray) (m0 m1 m2 m3 : Int) (hne : name ≠ tmpB) (hok : okName name = true) :
    ∃ s' a, (c.on s).replace name data m0 m1 m2 m3 = (((Vs.ctl (sizeF L) s.cap (isFull s) data c).1, a), (Vs.ctl (sizeF L) s.cap (isFull s) data c).2.on s') ∧ Left (Vs.ctl (sizeF L) s.cap (isFull s) data c).1 s' L (name, (m0, m1, m2, m3), data) := by
  have hS : ∀ l ∈ [L], l = L := fun l hl => by simpa using hl
  have hd1 : s.syncDir.dirs.length = 1 := rfl
  have h0 := h.syncDir
  have hL : lastS [L] = L := rfl
  rw [hL] at h0
  unfold Vs.replace
  rw [if_neg hne, if_neg (by rw [hok]; decide)]
  have e0 : (c.on s).syncDir = if c.met.1 ≠ 0 then (c.met.1, c.met.2.on s) else (0, c.met.2.on s.syncDir) := by unfold Vs.syncDir; rw [met_on]; rfl
  rw [e0]
  unfold Vs.ctl
  by_cases hm : c.met.1 = 0
  case neg =>
    rw [if_pos hm, if_pos hm, if_pos hm]
    have := met_num c
    exact ⟨s, 2, rfl, .inr (.inr ⟨hm, by omega, [L], h, by simp, hS⟩)⟩
  case pos =>
    rw [if_neg (show ¬ (c.met.1 ≠ 0) by simp [hm]), if_neg (show ¬ ((0 : Nat) ≠ 0) by simp), if_neg (show ¬ (c.met.1 ≠ 0) by simp [hm])]
    obtain ⟨c1, hc1⟩ : ∃ c1, c1 = c.met.2 := ⟨_, rfl⟩
    rw [← hc1]
    show ∃ s' a, Vs.lastly ((c1.on s.syncDir).exch name data m0 m1 m2 m3) = _ ∧ _
    have hcap : s.syncDir.cap = s.cap := rfl
    have hfl : isFull s = decide (leads s.syncDir.now tmpB = 0 ∧ 64 ≤ s.syncDir.now.length) := rfl
    have hb1 : s.syncDir.bodies.length < 2097152 := by show s.bodies.length < _; omega
    obtain ⟨s1, hs1⟩ : ∃ s1, s1 = s.syncDir := ⟨_, rfl⟩
    rw [← hs1] at h0 hcap hfl hb1 hd1 ⊢
    rw [← hcap, hfl]
    have hex : ∃ s' a, (c1.on s1).exch name data m0 m1 m2 m3 = (((Vs.ctlExch (sizeF L) s1.cap (decide (leads s1.now tmpB = 0 ∧ 64 ≤ s1.now.length)) data c1).1, a), (Vs.ctlExch (sizeF L) s1.cap (decide (leads s1.now tmpB = 0 ∧ 64 ≤ s1.now.length)) data c1).2.on s') ∧
        (((Vs.ctlExch (sizeF L) s1.cap (decide (leads s1.now tmpB = 0 ∧ 64 ≤ s1.now.length)) data c1).1 = 0 ∧ Sc s' [L, L, newF L (name, (m0, m1, m2, m3), data)]) ∨ ((Vs.ctlExch (sizeF L) s1.cap (decide (leads s1.now tmpB = 0 ∧ 64 ≤ s1.now.length)) data c1).1 ≠ 0 ∧ (Vs.ctlExch (sizeF L) s1.cap (decide (leads s1.now tmpB = 0 ∧ 64 ≤ s1.now.length)) data c1).1 < 160 ∧ ∃ S', Sc s' S' ∧ S' ≠ [] ∧ ∀ l ∈ S', l = L)) := by
      unfold Vs.exch
      have hw : ∃ s2 a S2, (c1.on s1).written data m0 m1 m2 m3 = (((Vs.ctlWritten (sizeF L) s1.cap (decide (leads s1.now tmpB = 0 ∧ 64 ≤ s1.now.length)) data c1).1, a), (Vs.ctlWritten (sizeF L) s1.cap (decide (leads s1.now tmpB = 0 ∧ 64 ≤ s1.now.length)) data c1).2.on s2) ∧ Sc s2 S2 ∧ (∀ l ∈ S2, l = L) ∧ s2.dirs.length < 2097151 ∧ (Vs.ctlWritten (sizeF L) s1.cap (decide (leads s1.now tmpB = 0 ∧ 64 ≤ s1.now.length)) data c1).1 < 160 ∧
          ((Vs.ctlWritten (sizeF L) s1.cap (decide (leads s1.now tmpB = 0 ∧ 64 ≤ s1.now.length)) data c1).1 = 0 → S2 = [L, L] ∧ ∃ n, Tm s2 L n ⟨m0, m1, m2, m3, data, data.size⟩) := by
        unfold Vs.written Vs.ctlWritten
        have ec : (c1.on s1).create tmpB m0 m1 m2 m3 = if c1.met.1 ≠ 0 then ((0, c1.met.1), c1.met.2.on s1) else ((s1.create tmpB m0 m1 m2 m3).1, c1.met.2.on (s1.create tmpB m0 m1 m2 m3).2) := by unfold Vs.create; rw [met_on]; rfl
        rw [ec]
        have hmn := met_num c1
        by_cases hm1 : c1.met.1 = 0
        case neg =>
          rw [if_pos hm1, if_pos hm1, if_pos hm1]
          exact ⟨s1, 3, [L], rfl, h0, hS, by omega, by omega, fun e => absurd e hm1⟩
        case pos =>
          rw [if_neg (show ¬ (c1.met.1 ≠ 0) by simp [hm1]), if_neg (show ¬ (c1.met.1 ≠ 0) by simp [hm1])]
          by_cases hfull : leads s1.now tmpB = 0 ∧ 64 ≤ s1.now.length
          · rw [if_pos (decide_eq_true hfull)]
            have ef : s1.create tmpB m0 m1 m2 m3 = ((0, 33), s1) := by unfold St.create; rw [if_neg (by rw [tmp_ok]; decide), if_pos hfull]
            rw [ef, if_pos (show (33 : Nat) ≠ 0 by decide)]
            exact ⟨s1, 3, [L], rfl, h0, hS, by omega, (show (33 : Nat) < 160 by decide), fun e => absurd (show (33 : Nat) = 0 from e) (by decide)⟩
          · rw [if_neg (show ¬ (decide (leads s1.now tmpB = 0 ∧ 64 ≤ s1.now.length) = true) by rw [decide_eq_true_eq]; exact hfull)]
            obtain ⟨g1, g2, g3, g4⟩ := sc_create h0 hb1 (by omega) m0 m1 m2 m3 hfull
            rw [g1, if_neg (show ¬ ((0 : Nat) ≠ 0) by simp)]
            rw [hL] at g2 g3
            have hd2 : (s1.create tmpB m0 m1 m2 m3).2.dirs.length = 2 := by
              have := congrArg List.length g2.sees; simpa using this
            obtain ⟨s', a, r1, r2, r3, r4⟩ := fill_ctl data ⟨tmpB, s1.bodies.length + 1, c1.round, false⟩ L ([L] ++ [L]) (nP data) 0 c1.met.2 _ _ (by omega) rfl (met_round c1).symm g2 g3 (by
              show (⟨#[]⟩ : ByteArray) = _
              rw [show min (0 * 512) data.size = 0 by omega, ByteArray.extract_same]; rfl)
            rw [g4] at r1 r4
            refine ⟨s', a, [L] ++ [L], r1, r2, fun l hl => by simpa using hl, by rw [r3.dirs, hd2]; decide, ctlFill_num _ _ _ _ _ _, fun e => ⟨rfl, s1.bodies.length + 1, r4 e⟩⟩
      obtain ⟨s2, a, S2, w1, w2, w3, w4, w6, w5⟩ := hw
      rw [w1]
      unfold Vs.ctlExch
      obtain ⟨W, hW⟩ : ∃ W, W = Vs.ctlWritten (sizeF L) s1.cap (decide (leads s1.now tmpB = 0 ∧ 64 ≤ s1.now.length)) data c1 := ⟨_, rfl⟩
      rw [← hW] at w5 w6 ⊢
      obtain ⟨we, wc⟩ := W
      simp only at w5 w6 ⊢
      unfold Vs.named Vs.undone
      simp only
      by_cases he : we = 0
      case neg =>
        rw [if_pos he, if_pos he, if_pos he]
        simp only
        obtain ⟨s', q1, q2⟩ := remove_on (c := wc) w2 w3 (by omega)
        rw [q1]
        exact ⟨s', a, rfl, .inr ⟨he, w6, q2⟩⟩
      case pos =>
        rw [if_neg (show ¬ (we ≠ 0) by simp [he]), if_neg (show ¬ (we ≠ 0) by simp [he])]
        obtain ⟨hS2, n, t⟩ := w5 he
        subst hS2
        have er : (wc.on s2).rename tmpB name = if wc.met.1 ≠ 0 then (wc.met.1, wc.met.2.on s2) else ((s2.rename tmpB name).1, wc.met.2.on (s2.rename tmpB name).2) := by unfold Vs.rename; rw [met_on]; rfl
        rw [er]
        have hmn := met_num wc
        by_cases hm2 : wc.met.1 = 0
        case neg =>
          rw [if_pos hm2, if_pos hm2]
          simp only
          rw [if_pos hm2]
          obtain ⟨s', q1, q2⟩ := remove_on (c := wc.met.2) w2 w3 (by omega)
          rw [q1]
          exact ⟨s', 6, rfl, .inr ⟨hm2, by show wc.met.1 < 160; omega, q2⟩⟩
        case pos =>
          rw [if_neg (show ¬ (wc.met.1 ≠ 0) by simp [hm2]), if_neg (show ¬ (wc.met.1 ≠ 0) by simp [hm2])]
          obtain ⟨r1, r2⟩ := t.rename w2 rfl name hne hok (by omega)
          simp only
          rw [if_neg (show ¬ ((s2.rename tmpB name).1 ≠ 0) by simp [r1]), r1]
          exact ⟨_, 6, rfl, .inl ⟨trivial, r2⟩⟩
    obtain ⟨s', a, x1, x2⟩ := hex
    rw [x1]
    obtain ⟨X, hX⟩ : ∃ X, X = Vs.ctlExch (sizeF L) s1.cap (decide (leads s1.now tmpB = 0 ∧ 64 ≤ s1.now.length)) data c1 := ⟨_, rfl⟩
    rw [← hX] at x2 ⊢
    obtain ⟨xe, xc⟩ := X
    simp only at x2 ⊢
    unfold Vs.lastly
    simp only
    rcases x2 with ⟨rfl, k2⟩ | ⟨k1, k2, k3⟩
    · rw [if_neg (show ¬ ((0 : Nat) ≠ 0) by simp), if_neg (show ¬ ((0 : Nat) ≠ 0) by simp)]
      have es : (xc.on s').syncDir = if xc.met.1 ≠ 0 then (xc.met.1, xc.met.2.on s') else (0, xc.met.2.on s'.syncDir) := by unfold Vs.syncDir; rw [met_on]; rfl
      rw [es]
      by_cases hm2 : xc.met.1 = 0
      · rw [if_neg (show ¬ (xc.met.1 ≠ 0) by simp [hm2]), if_neg (show ¬ ((0 : Nat) ≠ 0) by simp), if_neg (show ¬ (xc.met.1 ≠ 0) by simp [hm2])]
        have := k2.syncDir
        exact ⟨_, 0, rfl, .inl ⟨rfl, this⟩⟩
      · rw [if_pos hm2, if_pos hm2, if_pos hm2]
        exact ⟨s', 7, rfl, .inr (.inl ⟨rfl, k2⟩)⟩
    · rw [if_pos k1, if_pos k1]
      exact ⟨s', a, rfl, .inr (.inr ⟨k1, by show xe ≠ 160; omega, k3⟩)⟩
end Go.Proofs.YtofmiaaglbcebaaGreatDoor
