
-- Replace, plainly; directories and what is seen of them.
import Derived.Test.YtbbblncoicjacaaGreatDoorVA
import Derived.Test.YtbbblncoicjacaaGreatDoorQ1
namespace Go.Proofs.YtbbblncoicjacaaGreatDoor
open Go
set_option linter.unusedVariables false
def tmpB : ByteArray := ⟨#[97, 114, 46, 116, 109, 112, 126]⟩
theorem tmp_ok : okName tmpB = true := by decide +kernel
def nP (data : ByteArray) : Nat := (data.size + 511) / 512
def pieceOf (data : ByteArray) (k : Nat) : ByteArray := data.extract (k * 512) (min (k * 512 + 512) data.size)
/-- The pieces from the k-th on, n of them, and then a Sync. -/
def Vs.fillN (x : Hd) (data : ByteArray) : Nat → Nat → Vs → (Nat × Nat) × Vs
  | 0, _, v => (((v.sync x).1, 5), (v.sync x).2)
  | n + 1, k, v => if (v.write x (pieceOf data k)).1.2 ≠ 0 then (((v.write x (pieceOf data k)).1.2, 4), (v.write x (pieceOf data k)).2) else Vs.fillN x data n (k + 1) (v.write x (pieceOf data k)).2
def Vs.written (v : Vs) (data : ByteArray) (m0 m1 m2 m3 : Int) : (Nat × Nat) × Vs :=
  if (v.create tmpB m0 m1 m2 m3).1.2 ≠ 0 then (((v.create tmpB m0 m1 m2 m3).1.2, 3), (v.create tmpB m0 m1 m2 m3).2)
  else Vs.fillN ⟨tmpB, (v.create tmpB m0 m1 m2 m3).1.1, v.round, false⟩ data (nP data) 0 (v.create tmpB m0 m1 m2 m3).2
def Vs.named (a : (Nat × Nat) × Vs) (name : ByteArray) : (Nat × Nat) × Vs :=
  if a.1.1 ≠ 0 then a else (((a.2.rename tmpB name).1, 6), (a.2.rename tmpB name).2)
def Vs.undone (b : (Nat × Nat) × Vs) : (Nat × Nat) × Vs := if b.1.1 ≠ 0 then (b.1, (b.2.remove tmpB).2) else b
def Vs.exch (v : Vs) (name data : ByteArray) (m0 m1 m2 m3 : Int) : (Nat × Nat) × Vs := Vs.undone (Vs.named (v.written data m0 m1 m2 m3) name)
def Vs.lastly (b : (Nat × Nat) × Vs) : (Nat × Nat) × Vs :=
  if b.1.1 ≠ 0 then b else if b.2.syncDir.1 ≠ 0 then ((160, 7), b.2.syncDir.2) else ((0, 0), b.2.syncDir.2)
/-- What Replace answers (the number and which call), and the volume behind it. -/
def Vs.replace (v : Vs) (name data : ByteArray) (m0 m1 m2 m3 : Int) : (Nat × Nat) × Vs :=
  if name = tmpB then ((161, 1), v)
  else if okName name = false then ((32, 1), v)
  else if v.syncDir.1 ≠ 0 then ((v.syncDir.1, 2), v.syncDir.2)
  else Vs.lastly (v.syncDir.2.exch name data m0 m1 m2 m3)
theorem Vf.fillN {v : Vs} {k : Nat} (h : Vf v k) (x : Hd) (data : ByteArray) (n j : Nat) : Vf (Vs.fillN x data n j v).2 (k + n + 1) := by
  induction n generalizing v k j with
  | zero => exact h.sync x
  | succ n ih =>
    unfold Vs.fillN
    split
    · exact (h.write x _).mono (by omega)
    · have := ih (h.write x (pieceOf data j)) (j + 1)
      exact this.mono (by omega)
theorem Vf.written {v : Vs} {k : Nat} (h : Vf v k) (hk : k < 2097151) (data : ByteArray) (m0 m1 m2 m3 : Int) : Vf (v.written data m0 m1 m2 m3).2 (k + nP data + 2) := by
  have hc := h.create hk tmpB m0 m1 m2 m3
  unfold Vs.written
  split
  · exact hc.mono (by omega)
  · have := hc.fillN ⟨tmpB, (v.create tmpB m0 m1 m2 m3).1.1, v.round, false⟩ data (nP data) 0
    exact this.mono (by omega)
theorem Vf.exch {v : Vs} {k : Nat} (h : Vf v k) (name data : ByteArray) (hk : k + nP data + 4 < 2097151) (m0 m1 m2 m3 : Int) : Vf (v.exch name data m0 m1 m2 m3).2 (k + nP data + 4) := by
  have hc := h.written (by omega) data m0 m1 m2 m3
  have hn : Vf (Vs.named (v.written data m0 m1 m2 m3) name).2 (k + nP data + 3) := by
    unfold Vs.named
    split
    · exact hc.mono (by omega)
    · exact (hc.rename (by omega) _ _).mono (by omega)
  unfold Vs.exch Vs.undone
  split
  · exact (hn.remove (by omega) _).mono (by omega)
  · exact hn.mono (by omega)
theorem Vf.replace {v : Vs} {k : Nat} (h : Vf v k) (name data : ByteArray) (hk : k + nP data + 6 < 2097151) (m0 m1 m2 m3 : Int) : Vf (v.replace name data m0 m1 m2 m3).2 (k + nP data + 6) := by
  unfold Vs.replace
  split
  · exact h.mono (by omega)
  · split
    · exact h.mono (by omega)
    · split
      · exact h.syncDir.mono (by omega)
      · have hx := h.syncDir.exch name data (by omega) m0 m1 m2 m3
        unfold Vs.lastly
        split
        · exact hx.mono (by omega)
        · split <;> exact hx.syncDir.mono (by omega)
/-- A file as it is seen. -/
abbrev Fil := ByteArray × (Int × Int × Int × Int) × ByteArray
def lookB (bs : List Bd) (n : Nat) : Bd := (bs[n - 1]?).getD noBd
def filB (n : ByteArray) (b : Bd) : Fil := (n, (b.date, b.uid, b.gid, b.mode), b.data)
def filOf (bs : List Bd) (e : ByteArray × Nat) : Fil := filB e.1 (lookB bs e.2)
def seen (bs : List Bd) (d : Dr) : List Fil := (without d tmpB).map (filOf bs)
def insF (x : Fil) : List Fil → List Fil
  | [] => [x]
  | e :: r => if ltB x.1 e.1 = true then x :: e :: r else e :: insF x r
def othersF (l : List Fil) (n : ByteArray) : List Fil := l.filter fun e => decide (e.1 ≠ n)
def thatF (l : List Fil) (n : ByteArray) : List Fil := l.filter fun e => decide (e.1 = n)
def newF (l : List Fil) (x : Fil) : List Fil := insF x (othersF l x.1)
def sizeF (l : List Fil) : Nat := (l.map fun e => e.2.2.size).sum
theorem insF_others (x : Fil) (l : List Fil) : othersF (insF x l) x.1 = othersF l x.1 := by
  induction l with
  | nil => simp [insF, othersF]
  | cons e r ih =>
    unfold insF
    split
    · simp [othersF]
    · simp only [othersF, List.filter_cons] at ih ⊢
      rw [ih]
theorem newF_others (l : List Fil) (x : Fil) : othersF (newF l x) x.1 = othersF l x.1 := by
  unfold newF; rw [insF_others]; simp [othersF]
theorem insF_that (x : Fil) (l : List Fil) (h : ∀ e ∈ l, e.1 ≠ x.1) : thatF (insF x l) x.1 = [x] := by
  induction l with
  | nil => simp [insF, thatF]
  | cons e r ih =>
    have h0 := h e (by simp)
    have hr : ∀ y ∈ r, y.1 ≠ x.1 := fun y hy => h y (List.mem_cons_of_mem _ hy)
    have hn : thatF r x.1 = [] := by
      unfold thatF; rw [List.filter_eq_nil_iff]; intro y hy; simpa using hr y hy
    unfold insF
    split
    · unfold thatF at hn ⊢
      simp [h0, hn]
    · have := ih hr
      unfold thatF at this ⊢
      rw [List.filter_cons, if_neg (by simpa using h0), this]
theorem newF_that (l : List Fil) (x : Fil) : thatF (newF l x) x.1 = [x] :=
  insF_that x _ fun e he => by simpa using (List.mem_filter.1 he).2
theorem map_ins (bs : List Bd) (n : ByteArray) (b : Nat) (d : Dr) : (ins n b d).map (filOf bs) = insF (filOf bs (n, b)) (d.map (filOf bs)) := by
  induction d with
  | nil => rfl
  | cons e r ih =>
    unfold ins
    rw [List.map_cons]
    unfold insF
    by_cases h : ltB n e.1 = true
    · have h' : ltB (filOf bs (n, b)).1 (filOf bs e).1 = true := h
      rw [if_pos h, if_pos h']; rfl
    · have h' : ¬ ltB (filOf bs (n, b)).1 (filOf bs e).1 = true := h
      rw [if_neg h, if_neg h', List.map_cons, ih]
theorem map_without (bs : List Bd) (d : Dr) (n : ByteArray) : (without d n).map (filOf bs) = othersF (d.map (filOf bs)) n := by
  unfold without othersF
  rw [List.filter_map]; rfl
theorem without_without (d : Dr) (n : ByteArray) : without (without d n) n = without d n := by
  unfold without; rw [List.filter_filter]; simp
theorem without_ins (n : ByteArray) (b : Nat) (d : Dr) : without (ins n b d) n = without d n := by
  induction d with
  | nil => simp [ins, without]
  | cons e r ih =>
    unfold ins
    split
    · simp [without]
    · simp only [without, List.filter_cons] at ih ⊢
      rw [ih]
theorem without_with (d : Dr) (n : ByteArray) (b : Nat) : without (with_ d n b) n = without d n := by
  unfold with_; rw [without_ins, without_without]
theorem without_self {d : Dr} {n : ByteArray} (h : ∀ e ∈ d, e.1 ≠ n) : without d n = d := by
  unfold without; rw [List.filter_eq_self]; intro e he; simpa using h e he
/-- The directory behind the change of the name. -/
theorem seen_named (bs : List Bd) (d : Dr) (name : ByteArray) (n : Nat) (hne : name ≠ tmpB) : seen bs (with_ (without d tmpB) name n) = newF (seen bs d) (filOf bs (name, n)) := by
  unfold seen
  have h : without (with_ (without d tmpB) name n) tmpB = with_ (without d tmpB) name n := without_self fun e he => by
    rcases ins_mem _ _ _ _ he with rfl | he
    · exact hne
    · exact without_name _ _ e (without_mem _ _ _ he)
  rw [h]
  unfold with_ newF
  rw [map_ins, map_without]; rfl
theorem seen_congr {bs bs' : List Bd} {d : Dr} (h : ∀ e ∈ d, e.1 ≠ tmpB → lookB bs' e.2 = lookB bs e.2) : seen bs' d = seen bs d := by
  unfold seen
  apply List.map_congr_left
  intro e he
  unfold filOf
  rw [h e (without_mem _ _ _ he) (without_name _ _ e he)]
theorem szOf_look (bs : List Bd) (n : Nat) : szOf bs n = (lookB bs n).data.size := by
  unfold szOf lookB
  cases h : bs[n - 1]?
  · rfl
  · rfl
theorem used_seen (bs : List Bd) (d : Dr) : usedIn bs (without d tmpB) = sizeF (seen bs d) := by
  unfold usedIn sizeF seen
  rw [List.map_map]
  congr 1
  apply List.map_congr_left
  intro e he
  exact szOf_look bs e.2
theorem used_perm (bs : List Bd) {d d' : Dr} (h : d.Perm d') : usedIn bs d = usedIn bs d' := by
  unfold usedIn
  exact (h.map _).sum_nat
theorem used_with (bs : List Bd) (d : Dr) (b : Nat) : usedIn bs (with_ d tmpB b) = szOf bs b + sizeF (seen bs d) := by
  unfold with_
  rw [used_perm bs (ins_perm tmpB b (without d tmpB))]
  have : usedIn bs ((tmpB, b) :: without d tmpB) = szOf bs b + usedIn bs (without d tmpB) := by simp [usedIn]
  rw [this, used_seen]
end Go.Proofs.YtbbblncoicjacaaGreatDoor
