
-- What was made durable and is not named any more: plainly.
import Derived.Test.YtjbphheojfclcaaGreatZY
namespace Go.Proofs.YtjbphheojfclcaaGreat
open Go
set_option linter.unusedVariables false
set_option maxRecDepth 100000
theorem leads_ins (d : Dr) (a n : ByteArray) (b : Nat) (h : a ≠ n) : leads (ins a b d) n = leads d n := by
  induction d with
  | nil => unfold ins leads; rw [if_neg h]; rfl
  | cons e r ih =>
    unfold ins
    split
    · show leads ((a, b) :: e :: r) n = _
      rw [leads.eq_2, if_neg h]
    · rw [leads.eq_2, leads.eq_2, ih]
theorem leads_without (d : Dr) (a n : ByteArray) (h : a ≠ n) : leads (without d a) n = leads d n := by
  induction d with
  | nil => rfl
  | cons e r ih =>
    unfold without at ih ⊢
    rw [List.filter_cons]
    split
    · rw [leads.eq_2, leads.eq_2, ih]
    · rename_i he
      have he : e.1 = a := by simpa using he
      rw [leads.eq_2, if_neg (by rw [he]; exact h), ih]
theorem leads_with (d : Dr) (a n : ByteArray) (b : Nat) (h : a ≠ n) : leads (with_ d a b) n = leads d n := by
  unfold with_
  rw [leads_ins _ _ _ _ h, leads_without _ _ _ h]
/-- The file is there, whole and safe, whichever directory is kept. -/
structure Dur (nm : ByteArray) (B : Bd) (st : St) : Prop where
  body : st.bodies[0]? = some B
  firm : B.safe = B.data.size
  dirs : ∀ d ∈ st.dirs, leads d nm = 1
section
variable {nm : ByteArray} {B : Bd} {st : St}
theorem Dur.now (h : Dur nm B st) (hw : Wf st) : leads st.now nm = 1 := h.dirs _ (now_mem hw)
theorem Dur.len (h : Dur nm B st) : 1 ≤ st.bodies.length := by
  have := (List.getElem?_eq_some_iff.1 h.body).1
  omega
theorem Dur.create (h : Dur nm B st) (hw : Wf st) (a : ByteArray) (ha : a ≠ nm) (m0 m1 m2 m3 : Int) : Dur nm B (st.create a m0 m1 m2 m3).2 ∧ ((st.create a m0 m1 m2 m3).1.2 = 0 → (st.create a m0 m1 m2 m3).1.1 ≠ 1) := by
  unfold St.create
  split
  · exact ⟨h, fun e => by cases e⟩
  split
  · exact ⟨h, fun e => by cases e⟩
  · refine ⟨⟨?_, h.firm, fun d hd => ?_⟩, fun _ => ?_⟩
    · show (st.bodies ++ _)[0]? = _
      rw [List.getElem?_append_left (by have := h.len; omega)]; exact h.body
    · rcases List.mem_append.1 hd with hd | hd
      · exact h.dirs d hd
      · rw [List.mem_singleton.1 hd, leads_with _ _ _ _ ha]; exact h.now hw
    · show st.bodies.length + 1 ≠ 1
      have := h.len; omega
theorem Dur.rename (h : Dur nm B st) (hw : Wf st) (a b : ByteArray) (ha : a ≠ nm) (hb : b ≠ nm) : Dur nm B (st.rename a b).2 := by
  unfold St.rename
  split
  · exact h
  split
  · exact h
  split
  · exact h
  · refine ⟨h.body, h.firm, fun d hd => ?_⟩
    rcases List.mem_append.1 hd with hd | hd
    · exact h.dirs d hd
    · rw [List.mem_singleton.1 hd, leads_with _ _ _ _ hb, leads_without _ _ _ ha]; exact h.now hw
theorem Dur.remove (h : Dur nm B st) (hw : Wf st) (a : ByteArray) (ha : a ≠ nm) : Dur nm B (st.remove a).2 := by
  unfold St.remove
  split
  · exact h
  split
  · exact h
  · refine ⟨h.body, h.firm, fun d hd => ?_⟩
    rcases List.mem_append.1 hd with hd | hd
    · exact h.dirs d hd
    · rw [List.mem_singleton.1 hd, leads_without _ _ _ ha]; exact h.now hw
theorem Dur.syncDir (h : Dur nm B st) (hw : Wf st) : Dur nm B st.syncDir := ⟨h.body, h.firm, fun d hd => by rw [List.mem_singleton.1 hd]; exact h.now hw⟩
theorem Dur.put (h : Dur nm B st) (n : Nat) (hn : n ≠ 1) (b : Bd) (ht : ∃ x, st.at_ (n : Int) = some x) (hw : Wf st) : Dur nm B (st.put (n : Int) b) := by
  refine ⟨?_, h.firm, h.dirs⟩
  have h0 : n ≠ 0 := fun e => by
    obtain ⟨x, hx⟩ := ht
    unfold St.at_ at hx
    split at hx
    · rename_i hth
      obtain ⟨i, b', hi, -⟩ := there_body hw hth
      rw [e] at hi; omega
    · cases hx
  show (st.bodies.set _ _)[0]? = _
  rw [List.getElem?_set_ne (by omega)]
  exact h.body
theorem Dur.append (h : Dur nm B st) (hw : Wf st) (n : Nat) (hn : n ≠ 1) (data : ByteArray) : Dur nm B (st.append (n : Int) data).2 := by
  unfold St.append
  split
  · exact h
  · rename_i b hb
    split
    · exact h
    · exact h.put n hn _ ⟨b, hb⟩ hw
theorem Dur.sync (h : Dur nm B st) (hw : Wf st) (n : Nat) (hn : n ≠ 1) : Dur nm B (st.sync (n : Int)).2 := by
  unfold St.sync
  split
  · rename_i b hb
    exact h.put n hn _ ⟨b, hb⟩ hw
  · exact h
theorem cutTo_safe (cuts : List Int) (d : Dr) (bs : List Bd) (B : Bd) (hB : B.safe = B.data.size) (h : bs[0]? = some B) (hp : ∀ e ∈ d, 1 ≤ e.2) (k : Nat) : (cutTo cuts d bs k)[0]? = some B := by
  induction k with
  | zero => exact h
  | succ k ih =>
    simp only [cutTo]
    cases hk : d[k]? with
    | none => exact ih
    | some e =>
      simp only
      have h1 := hp e (List.mem_of_getElem? hk)
      by_cases h2 : e.2 = 1
      · rw [h2]
        simp only [Nat.sub_self]
        rw [ih]
        simp only
        rw [List.getElem?_set_self (by have := (List.getElem?_eq_some_iff.1 ih).1; exact this)]
        have hc : cutOf cuts k (B.data.size - B.safe) = 0 := by
          have := cutOf_le cuts k (B.data.size - B.safe)
          omega
        unfold cutB
        rw [hc, hB]
        have hx : B.data.extract 0 (B.data.size + 0) = B.data := by rw [Nat.add_zero]; exact ByteArray.extract_zero_size
        rw [hx]
        cases B; simp only at hB; subst hB; rfl
      · cases hx : (cutTo cuts d bs k)[e.2 - 1]? with
        | none => exact ih
        | some x =>
          simp only
          rw [List.getElem?_set_ne (by omega)]; exact ih
theorem Dur.crash (h : Dur nm B st) (hw : Wf st) (n : Int) (cuts : List Int) : Dur nm B (st.crash n cuts) := by
  have hm : st.cutDir n ∈ st.dirs := by
    unfold St.cutDir
    obtain ⟨m, h1, h2⟩ := within_nat n (st.dirs.length - 1)
    have hl : 0 < st.dirs.length := List.length_pos_iff.2 hw.ne
    rw [h1]
    have : ((m : Int)).toNat < st.dirs.length := by simp; omega
    rw [List.getElem?_eq_getElem this]
    exact List.getElem_mem _
  refine ⟨cutTo_safe cuts _ _ B h.firm h.body (fun e he => (hw.led _ hm e he).1) _, h.firm, fun d hd => ?_⟩
  rw [List.mem_singleton.1 hd]; exact h.dirs _ hm
theorem Dur.find (h : Dur nm B st) (hw : Wf st) (hn : okName nm = true) : st.find nm = ((nm, B), (1, 0)) := by
  unfold St.find
  rw [if_neg (by rw [hn]; decide), h.now hw, if_neg (by decide), show (1 : Nat) - 1 = 0 from rfl, h.body]
  rfl
theorem Dur.read (h : Dur nm B st) (hw : Wf st) : st.read ((1 : Nat) : Int) = (B.data, 0) := by
  have ht : there st.now (((0 : Nat) : Int) + 1) = true := by
    unfold there
    rw [List.any_eq_true]
    refine ⟨_, leads_mem st.now nm (by rw [h.now hw]; decide), ?_⟩
    simp only [h.now hw]; rfl
  have ha := at_some ht h.body
  unfold St.read
  rw [show ((1 : Nat) : Int) = ((0 : Nat) : Int) + 1 from rfl, ha]
end
section
variable {nm : ByteArray} {B : Bd}
theorem Dur.st_eq {st st' : St} (h : Dur nm B st) (e : st' = st) : Dur nm B st' := e ▸ h
theorem Dur.vcreate {v : Vs} (h : Dur nm B v.st) (hw : Wf v.st) (a : ByteArray) (ha : a ≠ nm) (m0 m1 m2 m3 : Int) : Dur nm B (v.create a m0 m1 m2 m3).2.st ∧ ((v.create a m0 m1 m2 m3).1.2 = 0 → (v.create a m0 m1 m2 m3).1.1 ≠ 1) := by
  unfold Vs.create
  split
  · rename_i hm
    exact ⟨h.st_eq (met_st v), fun e => absurd e hm⟩
  · exact h.create hw a ha m0 m1 m2 m3
theorem Dur.vwrite {v : Vs} (h : Dur nm B v.st) (hw : Wf v.st) (x : Hd) (hx : x.body ≠ 1) (data : ByteArray) : Dur nm B (v.write x data).2.st := by
  unfold Vs.write
  split
  · exact h
  · unfold Vs.writeB
    split
    · split
      · exact h.append hw _ hx _
      · exact h.append hw _ hx _
    · split
      · exact h.st_eq (met_st v)
      · split
        · exact h.append hw _ hx _
        · exact h.append hw _ hx _
theorem Dur.vsync {v : Vs} (h : Dur nm B v.st) (hw : Wf v.st) (x : Hd) (hx : x.body ≠ 1) : Dur nm B (v.sync x).2.st := by
  unfold Vs.sync
  split
  · exact h
  · unfold Vs.syncB
    split
    · exact h.st_eq (met_st v)
    · exact h.sync hw _ hx
/-- What a step names. -/
def touch (o : Cl) (nm : ByteArray) : Bool := if o.kind = 4 ∨ o.kind = 6 then decide (o.a = nm) else if o.kind = 5 then decide (o.a = nm) || decide (o.b = nm) else false
structure DurV (nm : ByteArray) (B : Bd) (x : Vl) : Prop where
  d : Dur nm B x.v.st
  hs : ∀ h ∈ x.hs, h.body ≠ 1
theorem DurV.call {x : Vl} (h : DurV nm B x) (hw : Wf x.v.st) (o : Cl) (ht : touch o nm = false) : DurV nm B (x.call o).2 := by
  have hm : Dur nm B x.v.met.2.st := h.d.st_eq (met_st x.v)
  unfold touch at ht
  unfold Vl.call
  split
  · refine ⟨?_, h.hs⟩
    show Dur nm B (x.v.read o.a).2.st
    unfold Vs.read
    split
    · exact hm
    · split
      · exact hm
      · exact hm
  split
  · refine ⟨?_, h.hs⟩
    show Dur nm B (x.v.stat o.a).2.st
    unfold Vs.stat
    split
    · exact hm
    · exact hm
  split
  · refine ⟨?_, h.hs⟩
    show Dur nm B x.v.list.2.st
    unfold Vs.list
    split
    · exact hm
    · exact hm
  split
  · rename_i k4
    rw [if_pos (.inl k4)] at ht
    have ha : o.a ≠ nm := of_decide_eq_false ht
    obtain ⟨h1, h2⟩ := h.d.vcreate hw o.a ha o.m0 o.m1 o.m2 o.m3
    unfold Vl.made
    split
    · rename_i he
      refine ⟨h1, fun y hy => ?_⟩
      rcases List.mem_append.1 hy with hy | hy
      · exact h.hs y hy
      · rw [List.mem_singleton.1 hy]; exact h2 he
    · exact ⟨h1, h.hs⟩
  split
  · rename_i n4 k5
    rw [if_neg (by omega), if_pos k5] at ht
    have ha : o.a ≠ nm := fun e => by simp [e] at ht
    have hb : o.b ≠ nm := fun e => by simp [e] at ht
    refine ⟨?_, h.hs⟩
    show Dur nm B (x.v.rename o.a o.b).2.st
    unfold Vs.rename
    split
    · exact hm
    · exact h.d.rename hw o.a o.b ha hb
  split
  · rename_i k6
    rw [if_pos (.inr k6)] at ht
    have ha : o.a ≠ nm := of_decide_eq_false ht
    refine ⟨?_, h.hs⟩
    show Dur nm B (x.v.remove o.a).2.st
    unfold Vs.remove
    split
    · exact hm
    · exact h.d.remove hw o.a ha
  split
  · refine ⟨?_, h.hs⟩
    show Dur nm B x.v.syncDir.2.st
    unfold Vs.syncDir
    split
    · exact hm
    · exact h.d.syncDir hw
  split
  · unfold Vl.byHandle
    split
    · exact h
    · rename_i y hy
      have hy1 : y ∈ x.hs := by
        unfold Vl.hd at hy
        split at hy
        · cases hy
        · exact List.mem_of_getElem? hy
      have hb := h.hs y hy1
      unfold Vl.byH
      split
      · exact ⟨h.d.vwrite hw y hb _, h.hs⟩
      split
      · exact ⟨h.d.vsync hw y hb, h.hs⟩
      split
      · refine ⟨h.d, fun z hz => ?_⟩
        rcases List.mem_or_eq_of_mem_set hz with hz | hz
        · exact h.hs z hz
        · rw [hz]
          unfold Vs.close
          split
          · exact hb
          · exact hb
      · exact h
  · exact h
theorem DurV.arm {x : Vl} (h : DurV nm B x) (p : List Flt) : DurV nm B (x.arm p) := ⟨h.d, h.hs⟩
theorem DurV.restart {x : Vl} (h : DurV nm B x) (hw : Wf x.v.st) (n : Int) (cuts : List Int) : DurV nm B (x.restart n cuts) := ⟨h.d.crash hw n cuts, h.hs⟩
/-- Behind a restart the file is read whole. -/
theorem DurV.read {x : Vl} (h : DurV nm B x) (hw : Wf x.v.st) (hn : okName nm = true) (n : Int) (cuts : List Int) : (((x.restart n cuts).call (opk 1 nm).c).1 = { an0 with s := B.data }) ∧ ((((x.restart n cuts).call (opk 1 nm).c).2.call (opk 2 nm).c).1 = { an0 with i0 := B.date, i1 := B.uid, i2 := B.gid, i3 := B.mode, iname := nm, isz := B.data.size }) := by
  have hc : Dur nm B (x.v.st.crash n cuts) := h.d.crash hw n cuts
  have hwc : Wf (x.v.st.crash n cuts) := (Vf.restart (v := x.v) (k := x.v.st.bodies.length + x.v.st.dirs.length + x.v.cnt + x.v.round) ⟨hw, by omega, by omega, by omega, by omega⟩ n cuts).wf
  have hv : Vs.read ⟨x.v.st.crash n cuts, [], 0, false, x.v.round + 1⟩ nm = ((B.data, 0), ⟨x.v.st.crash n cuts, [], 1, false, x.v.round + 1⟩) := by
    unfold Vs.read
    rw [met_nil, if_neg (fun h => h rfl)]
    show (if ((x.v.st.crash n cuts).find nm).2.2 ≠ 0 then _ else ((x.v.st.crash n cuts).read ((x.v.st.crash n cuts).find nm).2.1, _) : (ByteArray × Nat) × Vs) = _
    rw [hc.find hwc hn, if_neg (fun h => h rfl)]
    show ((x.v.st.crash n cuts).read ((1 : Nat) : Int), _) = _
    rw [hc.read hwc]
    rfl
  have e : (x.restart n cuts).call (opk 1 nm).c = (({ an0 with s := (Vs.read ⟨x.v.st.crash n cuts, [], 0, false, x.v.round + 1⟩ nm).1.1 }).fail opRead nm (Vs.read ⟨x.v.st.crash n cuts, [], 0, false, x.v.round + 1⟩ nm).1.2, ⟨(Vs.read ⟨x.v.st.crash n cuts, [], 0, false, x.v.round + 1⟩ nm).2, x.hs⟩) := rfl
  rw [e, hv]
  refine ⟨rfl, ?_⟩
  have hv2 : Vs.stat ⟨x.v.st.crash n cuts, [], 1, false, x.v.round + 1⟩ nm = (((nm, B), 0), ⟨x.v.st.crash n cuts, [], 2, false, x.v.round + 1⟩) := by
    unfold Vs.stat
    rw [met_nil, if_neg (fun h => h rfl)]
    show ((((x.v.st.crash n cuts).find nm).1, ((x.v.st.crash n cuts).find nm).2.2), _) = _
    rw [hc.find hwc hn]
    rfl
  have e2 : Vl.call ⟨⟨x.v.st.crash n cuts, [], 1, false, x.v.round + 1⟩, x.hs⟩ (opk 2 nm).c = ((anInfo (Vs.stat ⟨x.v.st.crash n cuts, [], 1, false, x.v.round + 1⟩ nm).1.1).fail opStat nm (Vs.stat ⟨x.v.st.crash n cuts, [], 1, false, x.v.round + 1⟩ nm).1.2, ⟨(Vs.stat ⟨x.v.st.crash n cuts, [], 1, false, x.v.round + 1⟩ nm).2, x.hs⟩) := rfl
  show (Vl.call ⟨⟨x.v.st.crash n cuts, [], 1, false, x.v.round + 1⟩, x.hs⟩ (opk 2 nm).c).1 = _
  rw [e2, hv2]
  rfl
end
/-- The file's beginning: written, synced, its name too. -/
def durSt (cap : Nat) (nm data : ByteArray) (m0 m1 m2 m3 : Int) : St := ⟨cap, [⟨m0, m1, m2, m3, data, data.size⟩], [[], [(nm, 1)]]⟩
theorem one_sync (cap cnt : Nat) (nm data : ByteArray) (m0 m1 m2 m3 : Int) : (oneVl cap cnt nm data m0 m1 m2 m3).call (opk 9 ⟨#[]⟩).c = (an0, ⟨⟨durSt cap nm data m0 m1 m2 m3, [], cnt + 1, false, 0⟩, [⟨nm, 1, 0, false⟩]⟩) := by
  have hs : (oneSt cap nm data m0 m1 m2 m3).sync ((1 : Nat) : Int) = (0, durSt cap nm data m0 m1 m2 m3) := by
    unfold St.sync
    rw [one_at]
    rfl
  have hv : Vs.sync ⟨oneSt cap nm data m0 m1 m2 m3, [], cnt, false, 0⟩ ⟨nm, 1, 0, false⟩ = (0, ⟨durSt cap nm data m0 m1 m2 m3, [], cnt + 1, false, 0⟩) := by
    unfold Vs.sync Vs.syncB
    have hc : Hd.closed ⟨nm, 1, 0, false⟩ ⟨oneSt cap nm data m0 m1 m2 m3, [], cnt, false, 0⟩ = false := rfl
    rw [hc, if_neg (by decide), met_nil, if_neg (fun h => h rfl)]
    show (((oneSt cap nm data m0 m1 m2 m3).sync ((1 : Nat) : Int)).1, Vs.on _ ((oneSt cap nm data m0 m1 m2 m3).sync ((1 : Nat) : Int)).2) = _
    rw [hs]
    rfl
  have e : (oneVl cap cnt nm data m0 m1 m2 m3).call (opk 9 ⟨#[]⟩).c = (an0.fail opSync nm (Vs.sync ⟨oneSt cap nm data m0 m1 m2 m3, [], cnt, false, 0⟩ ⟨nm, 1, 0, false⟩).1, ⟨(Vs.sync ⟨oneSt cap nm data m0 m1 m2 m3, [], cnt, false, 0⟩ ⟨nm, 1, 0, false⟩).2, [⟨nm, 1, 0, false⟩]⟩) := rfl
  rw [e, hv]
  rfl
theorem one_syncDir (cap cnt : Nat) (nm data : ByteArray) (m0 m1 m2 m3 : Int) : (Vl.call ⟨⟨durSt cap nm data m0 m1 m2 m3, [], cnt, false, 0⟩, [⟨nm, 1, 0, false⟩]⟩ (opk 7 ⟨#[]⟩).c) = (an0, ⟨⟨(durSt cap nm data m0 m1 m2 m3).syncDir, [], cnt + 1, false, 0⟩, [⟨nm, 1, 0, false⟩]⟩) := by
  have hv : Vs.syncDir ⟨durSt cap nm data m0 m1 m2 m3, [], cnt, false, 0⟩ = (0, ⟨(durSt cap nm data m0 m1 m2 m3).syncDir, [], cnt + 1, false, 0⟩) := by
    unfold Vs.syncDir
    rw [met_nil, if_neg (fun h => h rfl)]
    rfl
  have e : (Vl.call ⟨⟨durSt cap nm data m0 m1 m2 m3, [], cnt, false, 0⟩, [⟨nm, 1, 0, false⟩]⟩ (opk 7 ⟨#[]⟩).c) = (an0.fail opSyncDir ⟨#[]⟩ (Vs.syncDir ⟨durSt cap nm data m0 m1 m2 m3, [], cnt, false, 0⟩).1, ⟨(Vs.syncDir ⟨durSt cap nm data m0 m1 m2 m3, [], cnt, false, 0⟩).2, [⟨nm, 1, 0, false⟩]⟩) := rfl
  rw [e, hv]
  rfl
theorem dur_start (cap cnt : Nat) (nm data : ByteArray) (m0 m1 m2 m3 : Int) : DurV nm ⟨m0, m1, m2, m3, data, data.size⟩ ⟨⟨(durSt cap nm data m0 m1 m2 m3).syncDir, [], cnt, false, 0⟩, []⟩ := by
  refine ⟨⟨rfl, rfl, fun d hd => ?_⟩, fun h hh => by cases hh⟩
  rw [List.mem_singleton.1 hd]
  show leads [(nm, 1)] nm = 1
  unfold leads
  rw [if_pos rfl]
end Go.Proofs.YtjbphheojfclcaaGreat
