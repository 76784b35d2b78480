
-- What Replace answers hangs on the plan, the room and the number of files alone; and what it leaves.
import Derived.Test.YtbbblncoicjacaaGreatDoorX1
namespace Go.Proofs.YtbbblncoicjacaaGreatDoor
open Go
set_option linter.unusedVariables false
theorem met_on (c : Vs) (s : St) : (c.on s).met = (c.met.1, c.met.2.on s) := by
  obtain ⟨st, plan, cnt, off, rd⟩ := c
  cases off with
  | true => rfl
  | false =>
    unfold Vs.met
    show (match Vs.strikes _ with | none => _ | some f => _) = _
    have : Vs.strikes (Vs.on ⟨st, plan, cnt, false, rd⟩ s) = Vs.strikes ⟨st, plan, cnt, false, rd⟩ := rfl
    rw [this]
    simp only [Bool.false_eq_true, if_false]
    cases Vs.strikes ⟨st, plan, cnt, false, rd⟩ with
    | none => rfl
    | some f => simp only; split <;> rfl
theorem short_on (c : Vs) (s : St) : (c.on s).short = c.short := rfl
theorem met_round (c : Vs) : c.met.2.round = c.round := by
  unfold Vs.met
  split
  · rfl
  · split
    · rfl
    · split <;> rfl
theorem met_num (c : Vs) : c.met.1 = 0 ∨ c.met.1 = 40 ∨ c.met.1 = 41 := by
  unfold Vs.met
  split
  · exact .inr (.inr rfl)
  · split
    · exact .inl rfl
    · split
      · exact .inr (.inr rfl)
      · exact .inr (.inl rfl)
def Vs.ctlFill (U cap : Nat) (data : ByteArray) : Nat → Nat → Vs → Nat × Vs
  | 0, _, c => c.met
  | n + 1, k, c =>
    if c.met.1 = 0 then (if cap < U + k * 512 + (pieceOf data k).size then (31, c.met.2) else Vs.ctlFill U cap data n (k + 1) c.met.2)
    else match c.short with
      | none => c.met
      | some j => (if part (pieceOf data k) j ≠ ⟨#[]⟩ ∧ cap < U + k * 512 + (part (pieceOf data k) j).size then 31 else c.met.1, c.met.2)
def Vs.ctlWritten (U cap : Nat) (full : Bool) (data : ByteArray) (c : Vs) : Nat × Vs :=
  if c.met.1 ≠ 0 then c.met else if full = true then (33, c.met.2) else Vs.ctlFill U cap data (nP data) 0 c.met.2
def Vs.ctlExch (U cap : Nat) (full : Bool) (data : ByteArray) (c : Vs) : Nat × Vs :=
  if (Vs.ctlWritten U cap full data c).1 ≠ 0 then ((Vs.ctlWritten U cap full data c).1, (Vs.ctlWritten U cap full data c).2.met.2)
  else if (Vs.ctlWritten U cap full data c).2.met.1 ≠ 0 then ((Vs.ctlWritten U cap full data c).2.met.1, (Vs.ctlWritten U cap full data c).2.met.2.met.2)
  else (0, (Vs.ctlWritten U cap full data c).2.met.2)
def Vs.ctl (U cap : Nat) (full : Bool) (data : ByteArray) (c : Vs) : Nat × Vs :=
  if c.met.1 ≠ 0 then c.met
  else if (Vs.ctlExch U cap full data c.met.2).1 ≠ 0 then Vs.ctlExch U cap full data c.met.2
  else if (Vs.ctlExch U cap full data c.met.2).2.met.1 ≠ 0 then (160, (Vs.ctlExch U cap full data c.met.2).2.met.2)
  else (0, (Vs.ctlExch U cap full data c.met.2).2.met.2)
theorem piece_size {data : ByteArray} {k : Nat} : (pieceOf data k).size = min (k * 512 + 512) data.size - k * 512 := by
  unfold pieceOf; rw [ByteArray.size_extract]; omega
theorem nP_lt {data : ByteArray} {k : Nat} (h : k < nP data) : k * 512 < data.size := by unfold nP at h; omega
theorem nP_ge {data : ByteArray} {k : Nat} (h : nP data ≤ k) : data.size ≤ k * 512 := by unfold nP at h; omega
theorem piece_ne {data : ByteArray} {k : Nat} (h : k < nP data) : pieceOf data k ≠ ⟨#[]⟩ := fun e => by
  have h1 := nP_lt h
  have h2 : (pieceOf data k).size = 0 := by rw [e]; rfl
  rw [piece_size] at h2; omega
theorem piece_add {data : ByteArray} {k : Nat} (h : k < nP data) : data.extract 0 (min (k * 512) data.size) ++ pieceOf data k = data.extract 0 (min ((k + 1) * 512) data.size) := by
  have h1 := nP_lt h
  unfold pieceOf
  rw [show min (k * 512) data.size = k * 512 by omega, ByteArray.extract_append_extract, show min 0 (k * 512) = 0 by omega, show max (k * 512) (min (k * 512 + 512) data.size) = min ((k + 1) * 512) data.size by omega]
theorem beg_size {data : ByteArray} {k : Nat} (h : k < nP data) : (data.extract 0 (min (k * 512) data.size)).size = k * 512 := by
  have h1 := nP_lt h
  rw [ByteArray.size_extract]; omega
theorem beg_all {data : ByteArray} : data.extract 0 (min (nP data * 512) data.size) = data := by
  have h1 : data.size ≤ nP data * 512 := nP_ge (Nat.le_refl _)
  rw [show min (nP data * 512) data.size = data.size by omega, ByteArray.extract_zero_size]
/-- What stays of a volume's numbers. -/
structure Like (s s' : St) : Prop where
  cap : s'.cap = s.cap
  dirs : s'.dirs.length = s.dirs.length
theorem append_like (s : St) (n : Int) (data : ByteArray) : Like s (s.append n data).2 := by
  unfold St.append
  split
  · exact ⟨rfl, rfl⟩
  · split <;> exact ⟨rfl, rfl⟩
theorem sync_like (s : St) (n : Int) : Like s (s.sync n).2 := by
  unfold St.sync
  split <;> exact ⟨rfl, rfl⟩
theorem Like.trans {a b c : St} (h : Like a b) (k : Like b c) : Like a c := ⟨k.cap.trans h.cap, k.dirs.trans h.dirs⟩
theorem fill_ctl (data : ByteArray) (x : Hd) (L : List Fil) (S : List (List Fil)) (n : Nat) : ∀ (k : Nat) (c : Vs) (s : St) (b : Bd), k + n = nP data → x.shut = false → x.round = c.round → Sc s S → Tm s L x.body b → b.data = data.extract 0 (min (k * 512) data.size) →
    ∃ s' a, Vs.fillN x data n k (c.on s) = (((Vs.ctlFill (sizeF L) s.cap data n k c).1, a), (Vs.ctlFill (sizeF L) s.cap data n k c).2.on s') ∧ Sc s' S ∧ Like s s' ∧ ((Vs.ctlFill (sizeF L) s.cap data n k c).1 = 0 → Tm s' L x.body ⟨b.date, b.uid, b.gid, b.mode, data, data.size⟩) := by
  induction n with
  | zero =>
    intro k c s b hk hsh hr h t hb
    have hcl : x.closed (c.on s) = false := by
      unfold Hd.closed; rw [hsh]; show (false || decide (x.round ≠ c.round)) = false; rw [hr]; simp
    have hk' : k = nP data := by omega
    have hbd : b.data = data := by rw [hb, hk', beg_all]
    unfold Vs.fillN Vs.ctlFill
    have e : (c.on s).sync x = if c.met.1 ≠ 0 then (c.met.1, c.met.2.on s) else ((s.sync x.body).1, c.met.2.on (s.sync x.body).2) := by
      unfold Vs.sync; rw [if_neg (by rw [hcl]; decide)]; unfold Vs.syncB; rw [met_on]; rfl
    rw [e]
    obtain ⟨t1, t2, t3, t4⟩ := t.sync h
    by_cases hm : c.met.1 = 0
    · rw [if_neg (by simp [hm])]
      refine ⟨(s.sync x.body).2, 5, by rw [t1, hm], t2, sync_like _ _, fun _ => ?_⟩
      rw [hbd] at t3
      exact t3
    · rw [if_pos hm]
      exact ⟨s, 5, rfl, h, ⟨rfl, rfl⟩, fun e => absurd e hm⟩
  | succ n ih =>
    intro k c s b hk hsh hr h t hb
    have hkn : k < nP data := by omega
    have hcl : x.closed (c.on s) = false := by
      unfold Hd.closed; rw [hsh]; show (false || decide (x.round ≠ c.round)) = false; rw [hr]; simp
    have hbs : b.data.size = k * 512 := by rw [hb, beg_size hkn]
    have hcon : (c.on s).st = s := rfl
    have e : (c.on s).write x (pieceOf data k) = (c.on s).writeB x.body (pieceOf data k) := by
      unfold Vs.write; rw [if_neg (by rw [hcl]; decide)]
    unfold Vs.fillN Vs.ctlFill
    rw [e]
    obtain ⟨a1, a2⟩ := t.append h (pieceOf data k)
    rw [hbs] at a1 a2
    by_cases hm : c.met.1 = 0
    · rw [if_pos hm]
      have ew : (c.on s).writeB x.body (pieceOf data k) = if (s.append x.body (pieceOf data k)).1 ≠ 0 then ((0, (s.append x.body (pieceOf data k)).1), c.met.2.on (s.append x.body (pieceOf data k)).2) else (((pieceOf data k).size, 0), c.met.2.on (s.append x.body (pieceOf data k)).2) := by
        unfold Vs.writeB; rw [met_on, if_pos hm]; rfl
      rw [ew]
      by_cases hc : s.cap < sizeF L + k * 512 + (pieceOf data k).size
      · have hq := a1 ⟨piece_ne hkn, hc⟩
        rw [hq, if_pos (show (31 : Nat) ≠ 0 by decide), if_pos (show (31 : Nat) ≠ 0 by decide), if_pos hc]
        exact ⟨s, 4, rfl, h, ⟨rfl, rfl⟩, fun e => absurd (show (31 : Nat) = 0 from e) (by decide)⟩
      · obtain ⟨q1, q2, q3, q4⟩ := a2 (fun hh => hc hh.2)
        rw [if_neg (show ¬ ((s.append x.body (pieceOf data k)).1 ≠ 0) by simp [q1]), if_neg (show ¬ ((0 : Nat) ≠ 0) by simp), if_neg hc]
        obtain ⟨s', a, r1, r2, r3, r4⟩ := ih (k + 1) c.met.2 (s.append x.body (pieceOf data k)).2 _ (by omega) hsh (by rw [met_round]; exact hr) q2 q3 (by show b.data ++ _ = _; rw [hb, piece_add hkn])
        rw [q4] at r1 r4
        exact ⟨s', a, r1, r2, (append_like _ _ _).trans r3, r4⟩
    · rw [if_neg hm]
      have ew : (c.on s).writeB x.body (pieceOf data k) = match c.short with
          | none => ((0, c.met.1), c.met.2.on s)
          | some j => if (s.append x.body (part (pieceOf data k) j)).1 ≠ 0 then ((0, (s.append x.body (part (pieceOf data k) j)).1), c.met.2.on (s.append x.body (part (pieceOf data k) j)).2) else (((part (pieceOf data k) j).size, c.met.1), c.met.2.on (s.append x.body (part (pieceOf data k) j)).2) := by
        unfold Vs.writeB; rw [met_on, if_neg hm]; rfl
      rw [ew]
      cases hsj : c.short with
      | none =>
        simp only
        rw [if_pos hm]
        exact ⟨s, 4, rfl, h, ⟨rfl, rfl⟩, fun e => absurd e hm⟩
      | some j =>
        simp only
        obtain ⟨b1, b2⟩ := t.append h (part (pieceOf data k) j)
        rw [hbs] at b1 b2
        by_cases hc : part (pieceOf data k) j ≠ ⟨#[]⟩ ∧ s.cap < sizeF L + k * 512 + (part (pieceOf data k) j).size
        · rw [b1 hc, if_pos (show (31 : Nat) ≠ 0 by decide), if_pos (show (31 : Nat) ≠ 0 by decide), if_pos hc]
          exact ⟨s, 4, rfl, h, ⟨rfl, rfl⟩, fun e => absurd (show (31 : Nat) = 0 from e) (by decide)⟩
        · obtain ⟨q1, q2, q3, q4⟩ := b2 hc
          rw [if_neg (show ¬ ((s.append x.body (part (pieceOf data k) j)).1 ≠ 0) by simp [q1]), if_pos hm, if_neg hc]
          exact ⟨_, 4, rfl, q2, append_like _ _ _, fun e => absurd e hm⟩
theorem ctlFill_num (U cap : Nat) (data : ByteArray) (n : Nat) : ∀ (k : Nat) (c : Vs), (Vs.ctlFill U cap data n k c).1 < 160 := by
  induction n with
  | zero => intro k c; unfold Vs.ctlFill; have := met_num c; omega
  | succ n ih =>
    intro k c
    have hm := met_num c
    unfold Vs.ctlFill
    split
    · split
      · exact (show (31 : Nat) < 160 by decide)
      · exact ih _ _
    · split
      · omega
      · show (if _ then 31 else c.met.1) < 160
        split <;> omega
/-- What Replace leaves. -/
def Left (e : Nat) (s' : St) (L : List Fil) (x : Fil) : Prop :=
  (e = 0 ∧ Sc s' [newF L x]) ∨ (e = 160 ∧ Sc s' [L, L, newF L x]) ∨ (e ≠ 0 ∧ e ≠ 160 ∧ ∃ S', Sc s' S' ∧ S' ≠ [] ∧ ∀ l ∈ S', l = L)
def isFull (s : St) : Bool := decide (leads s.now tmpB = 0 ∧ 64 ≤ s.now.length)
theorem Sc.ne {s : St} {S : List (List Fil)} (h : Sc s S) : S ≠ [] := fun e => by
  have := h.sees; rw [e] at this; exact h.wf.ne (by simpa using this)
theorem remove_on {c : Vs} {s : St} {S : List (List Fil)} {L : List Fil} (h : Sc s S) (hS : ∀ l ∈ S, l = L) (hl : s.dirs.length < 2097152) : ∃ s', ((c.on s).remove tmpB).2 = c.met.2.on s' ∧ ∃ S', Sc s' S' ∧ S' ≠ [] ∧ ∀ l ∈ S', l = L := by
  unfold Vs.remove
  rw [met_on]
  by_cases hm : c.met.1 = 0
  · rw [if_neg (by simp [hm])]
    obtain ⟨S', h1, h2⟩ := sc_remove h hl
    refine ⟨(s.remove tmpB).2, rfl, S', h1, h1.ne, fun l hl => ?_⟩
    rcases h2 l hl with h3 | h3
    · exact hS l h3
    · rw [h3]
      unfold lastS
      cases hg : S.getLast? with
      | none => exact absurd (List.getLast?_eq_none_iff.1 hg) h.ne
      | some y => exact hS y (List.mem_of_getLast? hg)
  · rw [if_pos hm]
    exact ⟨s, rfl, S, h, h.ne, hS⟩
theorem now_one (s : St) : s.syncDir.now = s.now := rfl
theorem rep_all (c : Vs) (s : St) (L : List Fil) (h : Sc s [L]) (hb : s.bodies.length < 2097151) (name data : ByteArray) (m0 m1 m2 m3 : Int) (hne : name ≠ tmpB) (hok : okName name = true) :
    ∃ s' a, (c.on s).replace name data m0 m1 m2 m3 = (((Vs.ctl (sizeF L) s.cap (isFull s) data c).1, a), (Vs.ctl (sizeF L) s.cap (isFull s) data c).2.on s') ∧ Left (Vs.ctl (sizeF L) s.cap (isFull s) data c).1 s' L (name, (m0, m1, m2, m3), data) := by
  have hS : ∀ l ∈ [L], l = L := fun l hl => by simpa using hl
  have hd1 : s.syncDir.dirs.length = 1 := rfl
  have h0 := h.syncDir
  have hL : lastS [L] = L := rfl
  rw [hL] at h0
  unfold Vs.replace
  rw [if_neg hne, if_neg (by rw [hok]; decide)]
  have e0 : (c.on s).syncDir = if c.met.1 ≠ 0 then (c.met.1, c.met.2.on s) else (0, c.met.2.on s.syncDir) := by unfold Vs.syncDir; rw [met_on]; rfl
  rw [e0]
  unfold Vs.ctl
  by_cases hm : c.met.1 = 0
  case neg =>
    rw [if_pos hm, if_pos hm, if_pos hm]
    have := met_num c
    exact ⟨s, 2, rfl, .inr (.inr ⟨hm, by omega, [L], h, by simp, hS⟩)⟩
  case pos =>
    rw [if_neg (show ¬ (c.met.1 ≠ 0) by simp [hm]), if_neg (show ¬ ((0 : Nat) ≠ 0) by simp), if_neg (show ¬ (c.met.1 ≠ 0) by simp [hm])]
    obtain ⟨c1, hc1⟩ : ∃ c1, c1 = c.met.2 := ⟨_, rfl⟩
    rw [← hc1]
    show ∃ s' a, Vs.lastly ((c1.on s.syncDir).exch name data m0 m1 m2 m3) = _ ∧ _
    have hcap : s.syncDir.cap = s.cap := rfl
    have hfl : isFull s = decide (leads s.syncDir.now tmpB = 0 ∧ 64 ≤ s.syncDir.now.length) := rfl
    have hb1 : s.syncDir.bodies.length < 2097152 := by show s.bodies.length < _; omega
    obtain ⟨s1, hs1⟩ : ∃ s1, s1 = s.syncDir := ⟨_, rfl⟩
    rw [← hs1] at h0 hcap hfl hb1 hd1 ⊢
    rw [← hcap, hfl]
    have hex : ∃ s' a, (c1.on s1).exch name data m0 m1 m2 m3 = (((Vs.ctlExch (sizeF L) s1.cap (decide (leads s1.now tmpB = 0 ∧ 64 ≤ s1.now.length)) data c1).1, a), (Vs.ctlExch (sizeF L) s1.cap (decide (leads s1.now tmpB = 0 ∧ 64 ≤ s1.now.length)) data c1).2.on s') ∧
        (((Vs.ctlExch (sizeF L) s1.cap (decide (leads s1.now tmpB = 0 ∧ 64 ≤ s1.now.length)) data c1).1 = 0 ∧ Sc s' [L, L, newF L (name, (m0, m1, m2, m3), data)]) ∨ ((Vs.ctlExch (sizeF L) s1.cap (decide (leads s1.now tmpB = 0 ∧ 64 ≤ s1.now.length)) data c1).1 ≠ 0 ∧ (Vs.ctlExch (sizeF L) s1.cap (decide (leads s1.now tmpB = 0 ∧ 64 ≤ s1.now.length)) data c1).1 < 160 ∧ ∃ S', Sc s' S' ∧ S' ≠ [] ∧ ∀ l ∈ S', l = L)) := by
      unfold Vs.exch
      have hw : ∃ s2 a S2, (c1.on s1).written data m0 m1 m2 m3 = (((Vs.ctlWritten (sizeF L) s1.cap (decide (leads s1.now tmpB = 0 ∧ 64 ≤ s1.now.length)) data c1).1, a), (Vs.ctlWritten (sizeF L) s1.cap (decide (leads s1.now tmpB = 0 ∧ 64 ≤ s1.now.length)) data c1).2.on s2) ∧ Sc s2 S2 ∧ (∀ l ∈ S2, l = L) ∧ s2.dirs.length < 2097151 ∧ (Vs.ctlWritten (sizeF L) s1.cap (decide (leads s1.now tmpB = 0 ∧ 64 ≤ s1.now.length)) data c1).1 < 160 ∧
          ((Vs.ctlWritten (sizeF L) s1.cap (decide (leads s1.now tmpB = 0 ∧ 64 ≤ s1.now.length)) data c1).1 = 0 → S2 = [L, L] ∧ ∃ n, Tm s2 L n ⟨m0, m1, m2, m3, data, data.size⟩) := by
        unfold Vs.written Vs.ctlWritten
        have ec : (c1.on s1).create tmpB m0 m1 m2 m3 = if c1.met.1 ≠ 0 then ((0, c1.met.1), c1.met.2.on s1) else ((s1.create tmpB m0 m1 m2 m3).1, c1.met.2.on (s1.create tmpB m0 m1 m2 m3).2) := by unfold Vs.create; rw [met_on]; rfl
        rw [ec]
        have hmn := met_num c1
        by_cases hm1 : c1.met.1 = 0
        case neg =>
          rw [if_pos hm1, if_pos hm1, if_pos hm1]
          exact ⟨s1, 3, [L], rfl, h0, hS, by omega, by omega, fun e => absurd e hm1⟩
        case pos =>
          rw [if_neg (show ¬ (c1.met.1 ≠ 0) by simp [hm1]), if_neg (show ¬ (c1.met.1 ≠ 0) by simp [hm1])]
          by_cases hfull : leads s1.now tmpB = 0 ∧ 64 ≤ s1.now.length
          · rw [if_pos (decide_eq_true hfull)]
            have ef : s1.create tmpB m0 m1 m2 m3 = ((0, 33), s1) := by unfold St.create; rw [if_neg (by rw [tmp_ok]; decide), if_pos hfull]
            rw [ef, if_pos (show (33 : Nat) ≠ 0 by decide)]
            exact ⟨s1, 3, [L], rfl, h0, hS, by omega, (show (33 : Nat) < 160 by decide), fun e => absurd (show (33 : Nat) = 0 from e) (by decide)⟩
          · rw [if_neg (show ¬ (decide (leads s1.now tmpB = 0 ∧ 64 ≤ s1.now.length) = true) by rw [decide_eq_true_eq]; exact hfull)]
            obtain ⟨g1, g2, g3, g4⟩ := sc_create h0 hb1 (by omega) m0 m1 m2 m3 hfull
            rw [g1, if_neg (show ¬ ((0 : Nat) ≠ 0) by simp)]
            rw [hL] at g2 g3
            have hd2 : (s1.create tmpB m0 m1 m2 m3).2.dirs.length = 2 := by
              have := congrArg List.length g2.sees; simpa using this
            obtain ⟨s', a, r1, r2, r3, r4⟩ := fill_ctl data ⟨tmpB, s1.bodies.length + 1, c1.round, false⟩ L ([L] ++ [L]) (nP data) 0 c1.met.2 _ _ (by omega) rfl (met_round c1).symm g2 g3 (by
              show (⟨#[]⟩ : ByteArray) = _
              rw [show min (0 * 512) data.size = 0 by omega, ByteArray.extract_same]; rfl)
            rw [g4] at r1 r4
            refine ⟨s', a, [L] ++ [L], r1, r2, fun l hl => by simpa using hl, by rw [r3.dirs, hd2]; decide, ctlFill_num _ _ _ _ _ _, fun e => ⟨rfl, s1.bodies.length + 1, r4 e⟩⟩
      obtain ⟨s2, a, S2, w1, w2, w3, w4, w6, w5⟩ := hw
      rw [w1]
      unfold Vs.ctlExch
      obtain ⟨W, hW⟩ : ∃ W, W = Vs.ctlWritten (sizeF L) s1.cap (decide (leads s1.now tmpB = 0 ∧ 64 ≤ s1.now.length)) data c1 := ⟨_, rfl⟩
      rw [← hW] at w5 w6 ⊢
      obtain ⟨we, wc⟩ := W
      simp only at w5 w6 ⊢
      unfold Vs.named Vs.undone
      simp only
      by_cases he : we = 0
      case neg =>
        rw [if_pos he, if_pos he, if_pos he]
        simp only
        obtain ⟨s', q1, q2⟩ := remove_on (c := wc) w2 w3 (by omega)
        rw [q1]
        exact ⟨s', a, rfl, .inr ⟨he, w6, q2⟩⟩
      case pos =>
        rw [if_neg (show ¬ (we ≠ 0) by simp [he]), if_neg (show ¬ (we ≠ 0) by simp [he])]
        obtain ⟨hS2, n, t⟩ := w5 he
        subst hS2
        have er : (wc.on s2).rename tmpB name = if wc.met.1 ≠ 0 then (wc.met.1, wc.met.2.on s2) else ((s2.rename tmpB name).1, wc.met.2.on (s2.rename tmpB name).2) := by unfold Vs.rename; rw [met_on]; rfl
        rw [er]
        have hmn := met_num wc
        by_cases hm2 : wc.met.1 = 0
        case neg =>
          rw [if_pos hm2, if_pos hm2]
          simp only
          rw [if_pos hm2]
          obtain ⟨s', q1, q2⟩ := remove_on (c := wc.met.2) w2 w3 (by omega)
          rw [q1]
          exact ⟨s', 6, rfl, .inr ⟨hm2, by show wc.met.1 < 160; omega, q2⟩⟩
        case pos =>
          rw [if_neg (show ¬ (wc.met.1 ≠ 0) by simp [hm2]), if_neg (show ¬ (wc.met.1 ≠ 0) by simp [hm2])]
          obtain ⟨r1, r2⟩ := t.rename w2 rfl name hne hok (by omega)
          simp only
          rw [if_neg (show ¬ ((s2.rename tmpB name).1 ≠ 0) by simp [r1]), r1]
          exact ⟨_, 6, rfl, .inl ⟨trivial, r2⟩⟩
    obtain ⟨s', a, x1, x2⟩ := hex
    rw [x1]
    obtain ⟨X, hX⟩ : ∃ X, X = Vs.ctlExch (sizeF L) s1.cap (decide (leads s1.now tmpB = 0 ∧ 64 ≤ s1.now.length)) data c1 := ⟨_, rfl⟩
    rw [← hX] at x2 ⊢
    obtain ⟨xe, xc⟩ := X
    simp only at x2 ⊢
    unfold Vs.lastly
    simp only
    rcases x2 with ⟨rfl, k2⟩ | ⟨k1, k2, k3⟩
    · rw [if_neg (show ¬ ((0 : Nat) ≠ 0) by simp), if_neg (show ¬ ((0 : Nat) ≠ 0) by simp)]
      have es : (xc.on s').syncDir = if xc.met.1 ≠ 0 then (xc.met.1, xc.met.2.on s') else (0, xc.met.2.on s'.syncDir) := by unfold Vs.syncDir; rw [met_on]; rfl
      rw [es]
      by_cases hm2 : xc.met.1 = 0
      · rw [if_neg (show ¬ (xc.met.1 ≠ 0) by simp [hm2]), if_neg (show ¬ ((0 : Nat) ≠ 0) by simp), if_neg (show ¬ (xc.met.1 ≠ 0) by simp [hm2])]
        have := k2.syncDir
        exact ⟨_, 0, rfl, .inl ⟨rfl, this⟩⟩
      · rw [if_pos hm2, if_pos hm2, if_pos hm2]
        exact ⟨s', 7, rfl, .inr (.inl ⟨rfl, k2⟩)⟩
    · rw [if_pos k1, if_pos k1]
      exact ⟨s', a, rfl, .inr (.inr ⟨k1, by show xe ≠ 160; omega, k3⟩)⟩
end Go.Proofs.YtbbblncoicjacaaGreatDoor
