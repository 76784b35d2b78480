import Derived.Test.YtggnjgmjfenibaaGreatDoorM3
import Derived.Test.YtggnjgmjfenibaaGreatDoorProg
import Derived.KernelRfl
import Derived.WalkKit
import Derived.ProofKit
import Derived.Below
import Derived.OwnWalk
import Derived.Laws.CopyRow
import Derived.Laws.Tables
import Derived.Laws.AppendOwn
import Derived.Laws.NewBlocks
import Derived.Maps.AppendAt
import Derived.Lib.AppendStr
import Derived.Deep.MidRow
import Derived.Test.YtggnjgmjfenibaaGreatDoorU9
import Derived.Test.YtggnjgmjfenibaaGreatDoorVB
import Derived.Defers
import Derived.Recover
import Derived.Test.YtggnjgmjfenibaaGreatDoorU10

-- What Replace answers hangs on the plan, the room and the number of files alone; and what it leaves.
namespace Go.Proofs.YtggnjgmjfenibaaGreatDoor
open Go
set_option linter.unusedVariables false
theorem met_on (c : Vs) (s : St) : (c.on s).met = (c.met.1, c.met.2.on s) := by
  obtain ⟨st, plan, cnt, off, rd⟩ := c
  cases off with
  | true => rfl
  | false =>
    unfold Vs.met
    show (match Vs.strikes _ with | none => _ | some f => _) = _
    have : Vs.strikes (Vs.on ⟨st, plan, cnt, false, rd⟩ s) = Vs.strikes ⟨st, plan, cnt, false, rd⟩ := rfl
    rw [this]
    simp only [Bool.false_eq_true, if_false]
    cases Vs.strikes ⟨st, plan, cnt, false, rd⟩ with
    | none => rfl
    | some f => simp only; split <;> rfl
theorem short_on (c : Vs) (s : St) : (c.on s).short = c.short := rfl
theorem met_round (c : Vs) : c.met.2.round = c.round := by
  unfold Vs.met
  split
  · rfl
  · split
    · rfl
    · split <;> rfl
theorem met_num (c : Vs) : c.met.1 = 0 ∨ c.met.1 = 40 ∨ c.met.1 = 41 := by
  unfold Vs.met
  split
  · exact .inr (.inr rfl)
  · split
    · exact .inl rfl
    · split
      · exact .inr (.inr rfl)
      · exact .inr (.inl rfl)
def Vs.ctlFill (U cap : Nat) (data : ByteArray) : Nat → Nat → Vs → Nat × Vs
  | 0, _, c => c.met
  | n + 1, k, c =>
    if c.met.1 = 0 then (if cap < U + k * 512 + (pieceOf data k).size then (31, c.met.2) else Vs.ctlFill U cap data n (k + 1) c.met.2)
    else match c.short with
      | none => c.met
      | some j => (if part (pieceOf data k) j ≠ ⟨#[]⟩ ∧ cap < U + k * 512 + (part (pieceOf data k) j).size then 31 else c.met.1, c.met.2)
def Vs.ctlWritten (U cap : Nat) (full : Bool) (data : ByteArray) (c : Vs) : Nat × Vs :=
  if c.met.1 ≠ 0 then c.met else if full = true then (33, c.met.2) else Vs.ctlFill U cap data (nP data) 0 c.met.2
def Vs.ctlExch (U cap : Nat) (full : Bool) (data : ByteArray) (c : Vs) : Nat × Vs :=
  if (Vs.ctlWritten U cap full data c).1 ≠ 0 then ((Vs.ctlWritten U cap full data c).1, (Vs.ctlWritten U cap full data c).2.met.2)
  else if (Vs.ctlWritten U cap full data c).2.met.1 ≠ 0 then ((Vs.ctlWritten U cap full data c).2.met.1, (Vs.ctlWritten U cap full data c).2.met.2.met.2)
  else (0, (Vs.ctlWritten U cap full data c).2.met.2)
def Vs.ctl (U cap : Nat) (full : Bool) (data : ByteArray) (c : Vs) : Nat × Vs :=
  if c.met.1 ≠ 0 then c.met
  else if (Vs.ctlExch U cap full data c.met.2).1 ≠ 0 then Vs.ctlExch U cap full data c.met.2
  else if (Vs.ctlExch U cap full data c.met.2).2.met.1 ≠ 0 then (160, (Vs.ctlExch U cap full data c.met.2).2.met.2)
  else (0, (Vs.ctlExch U cap full data c.met.2).2.met.2)
theorem piece_size {data : ByteArray} {k : Nat} : (pieceOf data k).size = min (k * 512 + 512) data.size - k * 512 := by
  unfold pieceOf; rw [ByteArray.size_extract]; omega
theorem nP_lt {data : ByteArray} {k : Nat} (h : k < nP data) : k * 512 < data.size := by unfold nP at h; omega
theorem nP_ge {data : ByteArray} {k : Nat} (h : nP data ≤ k) : data.size ≤ k * 512 := by unfold nP at h; omega
theorem piece_ne {data : ByteArray} {k : Nat} (h : k < nP data) : pieceOf data k ≠ ⟨#[]⟩ := fun e => by
  have h1 := nP_lt h
  have h2 : (pieceOf data k).size = 0 := by rw [e]; rfl
  rw [piece_size] at h2; omega
theorem piece_add {data : ByteArray} {k : Nat} (h : k < nP data) : data.extract 0 (min (k * 512) data.size) ++ pieceOf data k = data.extract 0 (min ((k + 1) * 512) data.size) := by
  have h1 := nP_lt h
  unfold pieceOf
  rw [show min (k * 512) data.size = k * 512 by omega, ByteArray.extract_append_extract, show min 0 (k * 512) = 0 by omega, show max (k * 512) (min (k * 512 + 512) data.size) = min ((k + 1) * 512) data.size by omega]
theorem beg_size {data : ByteArray} {k : Nat} (h : k < nP data) : (data.extract 0 (min (k * 512) data.size)).size = k * 512 := by
  have h1 := nP_lt h
  rw [ByteArray.size_extract]; omega
theorem beg_all {data : ByteArray} : data.extract 0 (min (nP data * 512) data.size) = data := by
  have h1 : data.size ≤ nP data * 512 := nP_ge (Nat.le_refl _)
  rw [show min (nP data * 512) data.size = data.size by omega, ByteArray.extract_zero_size]
/-- What stays of a volume's numbers. -/
structure Like (s s' : St) : Prop where
  cap : s'.cap = s.cap
  dirs : s'.dirs.length = s.dirs.length
theorem append_like (s : St) (n : Int) (data : ByteArray) : Like s (s.append n data).2 := by
  unfold St.append
  split
  · exact ⟨rfl, rfl⟩
  · split <;> exact ⟨rfl, rfl⟩
theorem sync_like (s : St) (n : Int) : Like s (s.sync n).2 := by
  unfold St.sync
  split <;> exact ⟨rfl, rfl⟩
theorem Like.trans {a b c : St} (h : Like a b) (k : Like b c) : Like a c := ⟨k.cap.trans h.cap, k.dirs.trans h.dirs⟩
theorem fill_ctl (data : ByteArray) (x : Hd) (L : List Fil) (S : List (List Fil)) (n : Nat) : ∀ (k : Nat) (c : Vs) (s : St) (b : Bd), k + n = nP data → x.shut = false → x.round = c.round → Sc s S → Tm s L x.body b → b.data = data.extract 0 (min (k * 512) data.size) →
    ∃ s' a, Vs.fillN x data n k (c.on s) = (((Vs.ctlFill (sizeF L) s.cap data n k c).1, a), (Vs.ctlFill (sizeF L) s.cap data n k c).2.on s') ∧ Sc s' S ∧ Like s s' ∧ ((Vs.ctlFill (sizeF L) s.cap data n k c).1 = 0 → Tm s' L x.body ⟨b.date, b.uid, b.gid, b.mode, data, data.size⟩) := by
  induction n with
  | zero =>
    intro k c s b hk hsh hr h t hb
    have hcl : x.closed (c.on s) = false := by
      unfold Hd.closed; rw [hsh]; show (false || decide (x.round ≠ c.round)) = false; rw [hr]; simp
    have hk' : k = nP data := by omega
    have hbd : b.data = data := by rw [hb, hk', beg_all]
    unfold Vs.fillN Vs.ctlFill
    have e : (c.on s).sync x = if c.met.1 ≠ 0 then (c.met.1, c.met.2.on s) else ((s.sync x.body).1, c.met.2.on (s.sync x.body).2) := by
      unfold Vs.sync; rw [if_neg (by rw [hcl]; decide)]; unfold Vs.syncB; rw [met_on]; rfl
    rw [e]
    obtain ⟨t1, t2, t3, t4⟩ := t.sync h
    by_cases hm : c.met.1 = 0
    · rw [if_neg (by simp [hm])]
      refine ⟨(s.sync x.body).2, 5, by rw [t1, hm], t2, sync_like _ _, fun _ => ?_⟩
      rw [hbd] at t3
      exact t3
    · rw [if_pos hm]
      exact ⟨s, 5, rfl, h, ⟨rfl, rfl⟩, fun e => absurd e hm⟩
  | succ n ih =>
    intro k c s b hk hsh hr h t hb
    have hkn : k < nP data := by omega
    have hcl : x.closed (c.on s) = false := by
      unfold Hd.closed; rw [hsh]; show (false || decide (x.round ≠ c.round)) = false; rw [hr]; simp
    have hbs : b.data.size = k * 512 := by rw [hb, beg_size hkn]
    have hcon : (c.on s).st = s := rfl
    have e : (c.on s).write x (pieceOf data k) = (c.on s).writeB x.body (pieceOf data k) := by
      unfold Vs.write; rw [if_neg (by rw [hcl]; decide)]
    unfold Vs.fillN Vs.ctlFill
    rw [e]
    obtain ⟨a1, a2⟩ := t.append h (pieceOf data k)
    rw [hbs] at a1 a2
    by_cases hm : c.met.1 = 0
    · rw [if_pos hm]
      have ew : (c.on s).writeB x.body (pieceOf data k) = if (s.append x.body (pieceOf data k)).1 ≠ 0 then ((0, (s.append x.body (pieceOf data k)).1), c.met.2.on (s.append x.body (pieceOf data k)).2) else (((pieceOf data k).size, 0), c.met.2.on (s.append x.body (pieceOf data k)).2) := by
        unfold Vs.writeB; rw [met_on, if_pos hm]; rfl
      rw [ew]
      by_cases hc : s.cap < sizeF L + k * 512 + (pieceOf data k).size
      · have hq := a1 ⟨piece_ne hkn, hc⟩
        rw [hq, if_pos (show (31 : Nat) ≠ 0 by decide), if_pos (show (31 : Nat) ≠ 0 by decide), if_pos hc]
        exact ⟨s, 4, rfl, h, ⟨rfl, rfl⟩, fun e => absurd (show (31 : Nat) = 0 from e) (by decide)⟩
      · obtain ⟨q1, q2, q3, q4⟩ := a2 (fun hh => hc hh.2)
        rw [if_neg (show ¬ ((s.append x.body (pieceOf data k)).1 ≠ 0) by simp [q1]), if_neg (show ¬ ((0 : Nat) ≠ 0) by simp), if_neg hc]
        obtain ⟨s', a, r1, r2, r3, r4⟩ := ih (k + 1) c.met.2 (s.append x.body (pieceOf data k)).2 _ (by omega) hsh (by rw [met_round]; exact hr) q2 q3 (by show b.data ++ _ = _; rw [hb, piece_add hkn])
        rw [q4] at r1 r4
        exact ⟨s', a, r1, r2, (append_like _ _ _).trans r3, r4⟩
    · rw [if_neg hm]
      have ew : (c.on s).writeB x.body (pieceOf data k) = match c.short with
          | none => ((0, c.met.1), c.met.2.on s)
          | some j => if (s.append x.body (part (pieceOf data k) j)).1 ≠ 0 then ((0, (s.append x.body (part (pieceOf data k) j)).1), c.met.2.on (s.append x.body (part (pieceOf data k) j)).2) else (((part (pieceOf data k) j).size, c.met.1), c.met.2.on (s.append x.body (part (pieceOf data k) j)).2) := by
        unfold Vs.writeB; rw [met_on, if_neg hm]; rfl
      rw [ew]
      cases hsj : c.short with
      | none =>
        simp only
        rw [if_pos hm]
        exact ⟨s, 4, rfl, h, ⟨rfl, rfl⟩, fun e => absurd e hm⟩
      | some j =>
        simp only
        obtain ⟨b1, b2⟩ := t.append h (part (pieceOf data k) j)
        rw [hbs] at b1 b2
        by_cases hc : part (pieceOf data k) j ≠ ⟨#[]⟩ ∧ s.cap < sizeF L + k * 512 + (part (pieceOf data k) j).size
        · rw [b1 hc, if_pos (show (31 : Nat) ≠ 0 by decide), if_pos (show (31 : Nat) ≠ 0 by decide), if_pos hc]
          exact ⟨s, 4, rfl, h, ⟨rfl, rfl⟩, fun e => absurd (show (31 : Nat) = 0 from e) (by decide)⟩
        · obtain ⟨q1, q2, q3, q4⟩ := b2 hc
          rw [if_neg (show ¬ ((s.append x.body (part (pieceOf data k) j)).1 ≠ 0) by simp [q1]), if_pos hm, if_neg hc]
          exact ⟨_, 4, rfl, q2, append_like _ _ _, fun e => absurd e hm⟩
theorem ctlFill_num (U cap : Nat) (data : ByteArray) (n : Nat) : ∀ (k : Nat) (c : Vs), (Vs.ctlFill U cap data n k c).1 < 160 := by
  induction n with
  | zero => intro k c; unfold Vs.ctlFill; have := met_num c; omega
  | succ n ih =>
    intro k c
    have hm := met_num c
    unfold Vs.ctlFill
    split
    · split
      · exact (show (31 : Nat) < 160 by decide)
      · exact ih _ _
    · split
      · omega
      · show (if _ then 31 else c.met.1) < 160
        split <;> omega
/-- What Replace leaves. -/
def Left (e : Nat) (s' : St) (L : List Fil) (x : Fil) : Prop :=
  (e = 0 ∧ Sc s' [newF L x]) ∨ (e = 160 ∧ Sc s' [L, L, newF L x]) ∨ (e ≠ 0 ∧ e ≠ 160 ∧ ∃ S', Sc s' S' ∧ S' ≠ [] ∧ ∀ l ∈ S', l = L)
def isFull (s : St) : Bool := decide (leads s.now tmpB = 0 ∧ 64 ≤ s.now.length)
theorem Sc.ne {s : St} {S : List (List Fil)} (h : Sc s S) : S ≠ [] := fun e => by
  have := h.sees; rw [e] at this; exact h.wf.ne (by simpa using this)
theorem remove_on {c : Vs} {s : St} {S : List (List Fil)} {L : List Fil} (h : Sc s S) (hS : ∀ l ∈ S, l = L) (hl : s.dirs.length < 2097152) : ∃ s', ((c.on s).remove tmpB).2 = c.met.2.on s' ∧ ∃ S', Sc s' S' ∧ S' ≠ [] ∧ ∀ l ∈ S', l = L := by
  unfold Vs.remove
  rw [met_on]
  by_cases hm : c.met.1 = 0
  · rw [if_neg (by simp [hm])]
    obtain ⟨S', h1, h2⟩ := sc_remove h hl
    refine ⟨(s.remove tmpB).2, rfl, S', h1, h1.ne, fun l hl => ?_⟩
    rcases h2 l hl with h3 | h3
    · exact hS l h3
    · rw [h3]
      unfold lastS
      cases hg : S.getLast? with
      | none => exact absurd (List.getLast?_eq_none_iff.1 hg) h.ne
      | some y => exact hS y (List.mem_of_getLast? hg)
  · rw [if_pos hm]
    exact ⟨s, rfl, S, h, h.ne, hS⟩
theorem now_one (s : St) : s.syncDir.now = s.now := rfl
theorem rep_all (c : Vs) (s : St) (L : List Fil) (h : Sc s [L]) (hb : s.bodies.length < 2097151) (name data : ByteArray) (m0 m1 m2 m3 : Int) (hne : name ≠ tmpB) (hok : okName name = true) :
    ∃ s' a, (c.on s).replace name data m0 m1 m2 m3 = (((Vs.ctl (sizeF L) s.cap (isFull s) data c).1, a), (Vs.ctl (sizeF L) s.cap (isFull s) data c).2.on s') ∧ Left (Vs.ctl (sizeF L) s.cap (isFull s) data c).1 s' L (name, (m0, m1, m2, m3), data) := by
  have hS : ∀ l ∈ [L], l = L := fun l hl => by simpa using hl
  have hd1 : s.syncDir.dirs.length = 1 := rfl
  have h0 := h.syncDir
  have hL : lastS [L] = L := rfl
  rw [hL] at h0
  unfold Vs.replace
  rw [if_neg hne, if_neg (by rw [hok]; decide)]
  have e0 : (c.on s).syncDir = if c.met.1 ≠ 0 then (c.met.1, c.met.2.on s) else (0, c.met.2.on s.syncDir) := by unfold Vs.syncDir; rw [met_on]; rfl
  rw [e0]
  unfold Vs.ctl
  by_cases hm : c.met.1 = 0
  case neg =>
    rw [if_pos hm, if_pos hm, if_pos hm]
    have := met_num c
    exact ⟨s, 2, rfl, .inr (.inr ⟨hm, by omega, [L], h, by simp, hS⟩)⟩
  case pos =>
    rw [if_neg (show ¬ (c.met.1 ≠ 0) by simp [hm]), if_neg (show ¬ ((0 : Nat) ≠ 0) by simp), if_neg (show ¬ (c.met.1 ≠ 0) by simp [hm])]
    obtain ⟨c1, hc1⟩ : ∃ c1, c1 = c.met.2 := ⟨_, rfl⟩
    rw [← hc1]
    show ∃ s' a, Vs.lastly ((c1.on s.syncDir).exch name data m0 m1 m2 m3) = _ ∧ _
    have hcap : s.syncDir.cap = s.cap := rfl
    have hfl : isFull s = decide (leads s.syncDir.now tmpB = 0 ∧ 64 ≤ s.syncDir.now.length) := rfl
    have hb1 : s.syncDir.bodies.length < 2097152 := by show s.bodies.length < _; omega
    obtain ⟨s1, hs1⟩ : ∃ s1, s1 = s.syncDir := ⟨_, rfl⟩
    rw [← hs1] at h0 hcap hfl hb1 hd1 ⊢
    rw [← hcap, hfl]
    have hex : ∃ s' a, (c1.on s1).exch name data m0 m1 m2 m3 = (((Vs.ctlExch (sizeF L) s1.cap (decide (leads s1.now tmpB = 0 ∧ 64 ≤ s1.now.length)) data c1).1, a), (Vs.ctlExch (sizeF L) s1.cap (decide (leads s1.now tmpB = 0 ∧ 64 ≤ s1.now.length)) data c1).2.on s') ∧
        (((Vs.ctlExch (sizeF L) s1.cap (decide (leads s1.now tmpB = 0 ∧ 64 ≤ s1.now.length)) data c1).1 = 0 ∧ Sc s' [L, L, newF L (name, (m0, m1, m2, m3), data)]) ∨ ((Vs.ctlExch (sizeF L) s1.cap (decide (leads s1.now tmpB = 0 ∧ 64 ≤ s1.now.length)) data c1).1 ≠ 0 ∧ (Vs.ctlExch (sizeF L) s1.cap (decide (leads s1.now tmpB = 0 ∧ 64 ≤ s1.now.length)) data c1).1 < 160 ∧ ∃ S', Sc s' S' ∧ S' ≠ [] ∧ ∀ l ∈ S', l = L)) := by
      unfold Vs.exch
      have hw : ∃ s2 a S2, (c1.on s1).written data m0 m1 m2 m3 = (((Vs.ctlWritten (sizeF L) s1.cap (decide (leads s1.now tmpB = 0 ∧ 64 ≤ s1.now.length)) data c1).1, a), (Vs.ctlWritten (sizeF L) s1.cap (decide (leads s1.now tmpB = 0 ∧ 64 ≤ s1.now.length)) data c1).2.on s2) ∧ Sc s2 S2 ∧ (∀ l ∈ S2, l = L) ∧ s2.dirs.length < 2097151 ∧ (Vs.ctlWritten (sizeF L) s1.cap (decide (leads s1.now tmpB = 0 ∧ 64 ≤ s1.now.length)) data c1).1 < 160 ∧
          ((Vs.ctlWritten (sizeF L) s1.cap (decide (leads s1.now tmpB = 0 ∧ 64 ≤ s1.now.length)) data c1).1 = 0 → S2 = [L, L] ∧ ∃ n, Tm s2 L n ⟨m0, m1, m2, m3, data, data.size⟩) := by
        unfold Vs.written Vs.ctlWritten
        have ec : (c1.on s1).create tmpB m0 m1 m2 m3 = if c1.met.1 ≠ 0 then ((0, c1.met.1), c1.met.2.on s1) else ((s1.create tmpB m0 m1 m2 m3).1, c1.met.2.on (s1.create tmpB m0 m1 m2 m3).2) := by unfold Vs.create; rw [met_on]; rfl
        rw [ec]
        have hmn := met_num c1
        by_cases hm1 : c1.met.1 = 0
        case neg =>
          rw [if_pos hm1, if_pos hm1, if_pos hm1]
          exact ⟨s1, 3, [L], rfl, h0, hS, by omega, by omega, fun e => absurd e hm1⟩
        case pos =>
          rw [if_neg (show ¬ (c1.met.1 ≠ 0) by simp [hm1]), if_neg (show ¬ (c1.met.1 ≠ 0) by simp [hm1])]
          by_cases hfull : leads s1.now tmpB = 0 ∧ 64 ≤ s1.now.length
          · rw [if_pos (decide_eq_true hfull)]
            have ef : s1.create tmpB m0 m1 m2 m3 = ((0, 33), s1) := by unfold St.create; rw [if_neg (by rw [tmp_ok]; decide), if_pos hfull]
            rw [ef, if_pos (show (33 : Nat) ≠ 0 by decide)]
            exact ⟨s1, 3, [L], rfl, h0, hS, by omega, (show (33 : Nat) < 160 by decide), fun e => absurd (show (33 : Nat) = 0 from e) (by decide)⟩
          · rw [if_neg (show ¬ (decide (leads s1.now tmpB = 0 ∧ 64 ≤ s1.now.length) = true) by rw [decide_eq_true_eq]; exact hfull)]
            obtain ⟨g1, g2, g3, g4⟩ := sc_create h0 hb1 (by omega) m0 m1 m2 m3 hfull
            rw [g1, if_neg (show ¬ ((0 : Nat) ≠ 0) by simp)]
            rw [hL] at g2 g3
            have hd2 : (s1.create tmpB m0 m1 m2 m3).2.dirs.length = 2 := by
              have := congrArg List.length g2.sees; simpa using this
            obtain ⟨s', a, r1, r2, r3, r4⟩ := fill_ctl data ⟨tmpB, s1.bodies.length + 1, c1.round, false⟩ L ([L] ++ [L]) (nP data) 0 c1.met.2 _ _ (by omega) rfl (met_round c1).symm g2 g3 (by
              show (⟨#[]⟩ : ByteArray) = _
              rw [show min (0 * 512) data.size = 0 by omega, ByteArray.extract_same]; rfl)
            rw [g4] at r1 r4
            refine ⟨s', a, [L] ++ [L], r1, r2, fun l hl => by simpa using hl, by rw [r3.dirs, hd2]; decide, ctlFill_num _ _ _ _ _ _, fun e => ⟨rfl, s1.bodies.length + 1, r4 e⟩⟩
      obtain ⟨s2, a, S2, w1, w2, w3, w4, w6, w5⟩ := hw
      rw [w1]
      unfold Vs.ctlExch
      obtain ⟨W, hW⟩ : ∃ W, W = Vs.ctlWritten (sizeF L) s1.cap (decide (leads s1.now tmpB = 0 ∧ 64 ≤ s1.now.length)) data c1 := ⟨_, rfl⟩
      rw [← hW] at w5 w6 ⊢
      obtain ⟨we, wc⟩ := W
      simp only at w5 w6 ⊢
      unfold Vs.named Vs.undone
      simp only
      by_cases he : we = 0
      case neg =>
        rw [if_pos he, if_pos he, if_pos he]
        simp only
        obtain ⟨s', q1, q2⟩ := remove_on (c := wc) w2 w3 (by omega)
        rw [q1]
        exact ⟨s', a, rfl, .inr ⟨he, w6, q2⟩⟩
      case pos =>
        rw [if_neg (show ¬ (we ≠ 0) by simp [he]), if_neg (show ¬ (we ≠ 0) by simp [he])]
        obtain ⟨hS2, n, t⟩ := w5 he
        subst hS2
        have er : (wc.on s2).rename tmpB name = if wc.met.1 ≠ 0 then (wc.met.1, wc.met.2.on s2) else ((s2.rename tmpB name).1, wc.met.2.on (s2.rename tmpB name).2) := by unfold Vs.rename; rw [met_on]; rfl
        rw [er]
        have hmn := met_num wc
        by_cases hm2 : wc.met.1 = 0
        case neg =>
          rw [if_pos hm2, if_pos hm2]
          simp only
          rw [if_pos hm2]
          obtain ⟨s', q1, q2⟩ := remove_on (c := wc.met.2) w2 w3 (by omega)
          rw [q1]
          exact ⟨s', 6, rfl, .inr ⟨hm2, by show wc.met.1 < 160; omega, q2⟩⟩
        case pos =>
          rw [if_neg (show ¬ (wc.met.1 ≠ 0) by simp [hm2]), if_neg (show ¬ (wc.met.1 ≠ 0) by simp [hm2])]
          obtain ⟨r1, r2⟩ := t.rename w2 rfl name hne hok (by omega)
          simp only
          rw [if_neg (show ¬ ((s2.rename tmpB name).1 ≠ 0) by simp [r1]), r1]
          exact ⟨_, 6, rfl, .inl ⟨trivial, r2⟩⟩
    obtain ⟨s', a, x1, x2⟩ := hex
    rw [x1]
    obtain ⟨X, hX⟩ : ∃ X, X = Vs.ctlExch (sizeF L) s1.cap (decide (leads s1.now tmpB = 0 ∧ 64 ≤ s1.now.length)) data c1 := ⟨_, rfl⟩
    rw [← hX] at x2 ⊢
    obtain ⟨xe, xc⟩ := X
    simp only at x2 ⊢
    unfold Vs.lastly
    simp only
    rcases x2 with ⟨rfl, k2⟩ | ⟨k1, k2, k3⟩
    · rw [if_neg (show ¬ ((0 : Nat) ≠ 0) by simp), if_neg (show ¬ ((0 : Nat) ≠ 0) by simp)]
      have es : (xc.on s').syncDir = if xc.met.1 ≠ 0 then (xc.met.1, xc.met.2.on s') else (0, xc.met.2.on s'.syncDir) := by unfold Vs.syncDir; rw [met_on]; rfl
      rw [es]
      by_cases hm2 : xc.met.1 = 0
      · rw [if_neg (show ¬ (xc.met.1 ≠ 0) by simp [hm2]), if_neg (show ¬ ((0 : Nat) ≠ 0) by simp), if_neg (show ¬ (xc.met.1 ≠ 0) by simp [hm2])]
        have := k2.syncDir
        exact ⟨_, 0, rfl, .inl ⟨rfl, this⟩⟩
      · rw [if_pos hm2, if_pos hm2, if_pos hm2]
        exact ⟨s', 7, rfl, .inr (.inl ⟨rfl, k2⟩)⟩
    · rw [if_pos k1, if_pos k1]
      exact ⟨s', a, rfl, .inr (.inr ⟨k1, by show xe ≠ 160; omega, k3⟩)⟩
end Go.Proofs.YtggnjgmjfenibaaGreatDoor

-- One block turns; stores into a part of a row; rows of one's own beside them.
namespace Go.Proofs.YtggnjgmjfenibaaGreatDoor
open Go.ChangeShapes Go.WideShapes Go.ChangeAt Go.RowKit
set_option linter.unusedVariables false

structure Kq (k : Nat) (w w' : World) : Prop where
  os : w'.os = w.os
  tape : w'.tape = w.tape
  output : w'.output = w.output
  size : w.heap.size ≤ w'.heap.size
  block : ∀ j, j ≠ k → j < w.heap.size → w'.heap[j]? = w.heap[j]?
theorem Kq.row (w : World) (g : Nat) (cs : Array Value) : Kq g w (w.setRow g cs) :=
  ⟨rfl, rfl, rfl, by rw [setRow_size]; exact Nat.le_refl _, fun j h _ => setRow_other w g j cs h⟩
theorem Kq.below {k B : Nat} {w w' : World} (h : Kq k w w') (hk : B ≤ k) (hB : B ≤ w.heap.size) : Below B w w' := ⟨h.os, h.tape, h.output, h.size, fun j hj => h.block j (by omega) (by omega)⟩
theorem Kq.keeps {k j : Nat} {w W : World} {o : Obj} (h : Kq k w W) (hj : j ≠ k) (ho : w.heap[j]? = some o) : W.heap[j]? = some o := (h.block j hj (Array.getElem?_eq_some_iff.1 ho).1).trans ho
theorem Kq.belowN {k n : Nat} {a w W : World} (h : Kq k w W) (hb : Below n a w) (hk : n ≤ k) (hn : n ≤ a.heap.size) : Below n a W := hb.trans (h.below hk (Nat.le_trans hn hb.size))
def putAt (old : Array Value) (off : Nat) (v : Array Value) : Array Value := (old.toList.take off ++ v.toList ++ old.toList.drop (off + v.size)).toArray
theorem wpList_store_kz {P : Program} {ops : Array Oper} {rest : List Oper} {o : Oper} {a : Act} {w : World} {Q : Exit → Act → World → Prop} (hgd : o.guard = none) (hd : o.dst = none) (ty : TypeId) (x y : Operand) (ho : o.op = .store ty x y)
    (g off : Nat) (v : Value) (hx : a.eval x = .pointer (some ⟨g, off, none⟩)) (hy : a.eval y = v)
    (t : TypeId) (old new : Array Value) (hg : w.heap[g]? = some (.cells old t (0, 0))) (hi : (P.info? ty).map (·.size) = some v.cells.size)
    (hfit : Nat.ble (off + v.cells.size) old.size = true) (h1 : v.cells.toList.all (·.oneCell') = true) (hnew : putAt old off v.cells = new)
    (h : ∀ W : World, W.heap[g]? = some (.cells new t (0, 0)) → Kq g w W → wpList P ops Q rest a W) : wpList P ops Q (o :: rest) a w := by
  subst hy
  have hst : (storeVar ty ⟨g, off, none⟩ (a.eval y)).run P w = .ok () (w.setRow g new) := by
    have := run_storeCells_at (P := P) g off t (a.eval y).cells.toList 0 old w hg (by simpa using Nat.le_of_ble_eq_true hfit) (fun v hv => (List.all_eq_true.1 h1) v hv)
    cases hq : P.info? ty with
    | none => simp [hq] at hi
    | some i =>
      have hs : (a.eval y).cells.size = i.size := by simp [hq] at hi; omega
      simp only [Nat.add_zero, Array.length_toList] at this
      unfold putAt at hnew
      rw [hnew] at this
      simp [storeVar, sizeOf, typeInfo, hq, hs, this]
  refine wpList_plain hgd fun _ hK => ?_
  unfold Oper.wp execOp
  simp only [ho, hx, Instr.storeAt, Instr.sureAddr, Sem.run_bind, Sem.run_pure, Result.andThen_ok, hst]
  refine hK _ _ ?_
  rw [hd]
  exact h _ (setRow_heap w g old new t (0, 0) hg) (Kq.row w g new)
theorem bupK {w w' : World} (h : Below w.heap.size w w') (o : Obj) : Below w.heap.size w (w'.alloc o) := h.alloc h.size o
theorem hupK {w : World} {b : Nat} {x : Obj} (h : w.heap[b]? = some x) (o : Obj) : (w.alloc o).heap[b]? = some x := (Below.heap_alloc w o b (Array.getElem?_eq_some_iff.1 h).1).trans h
theorem hkeepK {w w' : World} {b : Nat} {x : Obj} (hb : Below w.heap.size w w') (h : w.heap[b]? = some x) : w'.heap[b]? = some x := (hb.block b (Array.getElem?_eq_some_iff.1 h).1).trans h
theorem bel3K {w a b : World} (h : Below w.heap.size w a) (k : Below a.heap.size a b) : Below w.heap.size w b := h.trans (k.mono h.size)
theorem heap_new2K (w : World) (o o' : Obj) : ((w.alloc o).alloc o').heap[w.heap.size + 1]? = some o' := by
  have h := heap_alloc_new (w.alloc o) o'
  rwa [World.size_alloc] at h
theorem heap_new3K (w : World) (o o' o'' : Obj) : (((w.alloc o).alloc o').alloc o'').heap[w.heap.size + 1 + 1]? = some o'' := by
  have h := heap_alloc_new ((w.alloc o).alloc o') o''
  rw [World.size_alloc, World.size_alloc] at h
  exact h
theorem cell_rowK {w : World} {k : Nat} {cs : Array Value} {t : TypeId} (h : w.heap[k]? = some (.cells cs t (0, 0))) (i : Nat) (v : Value) (hv : cs[i]? = some v) : w.cell? ⟨k, i, none⟩ = some v := by
  simp [World.cell?, h, hv]
theorem hidK {p : Prop} (h : p) : Hid p := h
theorem own_onK {n₀ : Nat} {W W' : World} {e : TypeId} {size k : Nat} {v : Value} {xs : List Value} (h : W.ownsRow n₀ e size v k xs) (hb : Below W.heap.size W W') : W'.ownsRow n₀ e size v k xs := by
  refine ⟨h.1, ?_⟩
  rcases h.2 with q | ⟨g, cap, cur, q1, q2, q3, q4⟩
  · exact .inl q
  · exact .inr ⟨g, cap, cur, q1, q2, (hb.block g (Array.getElem?_eq_some_iff.1 q3).1).trans q3, q4⟩
theorem own_upK {n₀ : Nat} {W : World} {e : TypeId} {size k : Nat} {v : Value} {xs : List Value} (h : W.ownsRow n₀ e size v k xs) (o : Obj) : (W.alloc o).ownsRow n₀ e size v k xs := own_onK h (bupK (Below.refl _ _) o)
theorem own_kqK {n₀ B : Nat} {W W' : World} {e t : TypeId} {size k : Nat} {v : Value} {xs : List Value} {cs : Array Value} (h : W.ownsRow n₀ e size v k xs) (hq : Kq B W W') (hB : W.heap[B]? = some (.cells cs t (0, 0))) (hte : t ≠ e) : W'.ownsRow n₀ e size v k xs := by
  refine ⟨h.1, ?_⟩
  rcases h.2 with q | ⟨g, cap, cur, q1, q2, q3, q4⟩
  · exact .inl q
  · refine .inr ⟨g, cap, cur, q1, q2, hq.keeps ?_ q3, q4⟩
    intro e'
    subst e'
    rw [q3] at hB
    injection hB with hB
    injection hB with _ hB _
    exact hte hB.symm
/-- a row of another block lies on through an append -/
theorem own_ne {n₀ : Nat} {W W' : World} {e : TypeId} {size k : Nat} {v v' : Value} {xs : List Value} (h : W.ownsRow n₀ e size v k xs) (hne : ∀ g, v.ownBlock = some g → v'.ownBlock ≠ some g) (hg : W.grownBy W' v'.ownBlock) : W'.ownsRow n₀ e size v k xs := by
  refine ⟨h.1, ?_⟩
  rcases h.2 with q | ⟨g, cap, cur, q1, q2, q3, q4⟩
  · exact .inl q
  · refine .inr ⟨g, cap, cur, q1, q2, (hg.block g (Array.getElem?_eq_some_iff.1 q3).1 ?_).trans q3, q4⟩
    subst q1
    exact fun e' => hne g rfl e'.symm
theorem own_ty {n₀ : Nat} {W : World} {e t : TypeId} {size k size' k' : Nat} {v v' : Value} {xs ys : List Value} (h : W.ownsRow n₀ e size v k xs) (h' : W.ownsRow n₀ t size' v' k' ys) (hte : t ≠ e) : ∀ g, v.ownBlock = some g → v'.ownBlock ≠ some g := by
  intro g h1 h2
  rcases h.2 with ⟨rfl, _⟩ | ⟨g1, cap, cur, rfl, _, q3, _⟩
  · simp [Value.ownBlock] at h1
  · rcases h'.2 with ⟨rfl, _⟩ | ⟨g2, cap', cur', rfl, _, q3', _⟩
    · simp [Value.ownBlock] at h2
    · have a1 : g1 = g := by simpa [Value.ownBlock] using h1
      have a2 : g2 = g := by simpa [Value.ownBlock] using h2
      rw [a1] at q3; rw [a2, q3] at q3'
      injection q3' with q3'
      injection q3' with _ q3' _
      exact hte q3'.symm
theorem own_ltK {n₀ : Nat} {W : World} {e : TypeId} {size k : Nat} {v : Value} {xs : List Value} (h : W.ownsRow n₀ e size v k xs) : ∀ g, v.ownBlock = some g → g < W.heap.size := by
  intro g h1
  rcases h.2 with ⟨rfl, _⟩ | ⟨g1, cap, cur, rfl, _, q3, _⟩
  · simp [Value.ownBlock] at h1
  · have a1 : g1 = g := by simpa [Value.ownBlock] using h1
    rw [← a1]; exact (Array.getElem?_eq_some_iff.1 q3).1
theorem row_ne {n₀ B : Nat} {W W' : World} {e t : TypeId} {size k : Nat} {v : Value} {xs : List Value} {cs : Array Value} (hB : W.heap[B]? = some (.cells cs t (0, 0))) (h : W.ownsRow n₀ e size v k xs) (hte : t ≠ e) (hg : W.grownBy W' v.ownBlock) : W'.heap[B]? = some (.cells cs t (0, 0)) := by
  refine (hg.block B (Array.getElem?_eq_some_iff.1 hB).1 ?_).trans hB
  intro eq
  rcases h.2 with ⟨rfl, _⟩ | ⟨g, cap, cur, rfl, _, hgb, _⟩
  · simp [Value.ownBlock] at eq
  · have e' : B = g := by simpa [Value.ownBlock] using eq
    subst e'
    rw [hB] at hgb
    injection hgb with hgb
    injection hgb with _ hgb _
    exact hte hgb
theorem below_grow {n₀ : Nat} {A W W' : World} {e : TypeId} {size k : Nat} {v : Value} {xs : List Value} (hb : Below n₀ A W) (hg : W.grownBy W' v.ownBlock) (ho : W.ownsRow n₀ e size v k xs) (hn : n₀ ≤ A.heap.size) : Below n₀ A W' :=
  hb.trans ((Below.refl _ _).grown hg (Nat.le_trans hn hb.size) (fun q hq => (ho.lt q hq).1))
theorem new_rowK (w : World) (cs : Array Value) (t : TypeId) (l : List Value) (hl : cs.toList = l) : ∀ j u, l[j]? = some u → (w.alloc (.cells cs t)).cell? (Addr.add ⟨w.heap.size, 0, none⟩ j) = some u := by
  intro j u hu
  rw [Addr.add_mid, Nat.zero_add]
  refine cell_rowK (heap_alloc_new w _) j u ?_
  rw [← hl] at hu
  simpa using hu
end Go.Proofs.YtggnjgmjfenibaaGreatDoor

-- commit: its error, its look at a name; a handle let go by defer.
namespace Go.Proofs.YtggnjgmjfenibaaGreatDoor
open Go.RowKit
set_option linter.unusedVariables false
variable {PS : (Nat → Prop) → Nat → St → World → Prop}
def replB : ByteArray := ⟨#[114, 101, 112, 108, 97, 99, 101]⟩
set_option maxHeartbeats 4000000 in
theorem cfailed_c (name : ByteArray) (e : Nat) (he : e ≠ 0) (w : World) :
    Calls Tryz.prog 49 #[.string name, .int .i64 e] w fun r w' => ∃ ev, r = .returned ev ∧ ErrIs w' w.heap.size replB name e ev ∧ Below w.heap.size w w' := by
  have HE : Hid (e ≠ 0) := he
  clear he
  go_enter Tryz.func49, Tryz.ntmps49
  go_wp2
  go_ret
  exact ⟨_, rfl, .inr ⟨HE.out, w.heap.size, Nat.le_refl _, rfl, heap_alloc_new _ _⟩, (Below.refl _ w).alloc (Nat.le_refl _) _⟩
/-- Why no file of this name can be replaced. -/
def whyNo (name : ByteArray) : Nat := if name = tmpB then 161 else if okName name = false then 32 else 0
set_option maxHeartbeats 4000000 in
theorem crefusal_c (s : ByteArray) (w : World) :
    Calls Tryz.prog 48 #[.string s] w fun e w' => e = .returned (.int .i64 (whyNo s)) ∧ Below w.heap.size w w' := by
  by_cases ht : s = tmpB
  · have HE : Hid (whyNo s = 161) := by show whyNo s = 161; unfold whyNo; rw [if_pos ht]
    rw [HE.out]
    clear HE
    subst ht
    unfold tmpB
    go_enter Tryz.func48, Tryz.ntmps48
    go_wp2
    go_ret
    exact ⟨rfl, Below.refl _ _⟩
  · have hb : (s.toList == tmpB.toList) = false := by rw [beq_toList]; exact decide_eq_false ht
    have hb' : (s.toList == [97, 114, 46, 116, 109, 112, 126]) = false := by
      have : tmpB.toList = [97, 114, 46, 116, 109, 112, 126] := by rw [ByteArray.toList_eq]; rfl
      rw [← this]; exact hb
    by_cases h0 : s = ⟨#[]⟩
    · have HE : Hid (whyNo s = 32) := by
        show whyNo s = 32; unfold whyNo; rw [if_neg ht, h0, if_pos (by decide +kernel)]
      rw [HE.out]
      clear HE
      subst h0
      go_enter Tryz.func48, Tryz.ntmps48
      go_wp2
      go_ret
      exact ⟨rfl, Below.refl _ _⟩
    · have h1 := empty_no h0
      have hs1 : 1 ≤ s.size := by
        rcases Nat.eq_zero_or_pos s.size with h | h
        · exact absurd (by cases s with | mk d => have e : d = #[] := Array.eq_empty_of_size_eq_zero h; rw [e]) h0
        · exact h
      have hl : s.toList.isEmpty = false := by
        cases h : s.toList with
        | nil => exact absurd h h1
        | cons _ _ => rfl
      by_cases h64 : s.size ≤ 64
      · have b1 : decide (64 < (s.size : Int)) = false := decide_eq_false (by omega)
        have HA : Hid (∀ W, Calls Tryz.prog 70 #[.string s, .string ⟨#[47, 0]⟩] W fun e w' => e = .returned (.bool (!s.data.toList.all okByte)) ∧ Below W.heap.size W w') := fun W => contains_c s W h64
        have hE : okName s = s.data.toList.all okByte := by unfold okName; simp [hs1, h64]
        have HE : Hid (whyNo s = if s.data.toList.all okByte = false then 32 else 0) := by show whyNo s = _; unfold whyNo; rw [if_neg ht, hE]
        obtain ⟨q, hq⟩ : ∃ q, q = s.data.toList.all okByte := ⟨_, rfl⟩
        rw [← hq] at HA HE
        rw [HE.out]
        clear hq HE h0 hE ht
        cases q
        all_goals
          go_enter Tryz.func48, Tryz.ntmps48
          go_wp2_with (go_at_call 70; refine (HA.out _).mono ?_; rintro e w1 ⟨rfl, hb⟩)
          go_ret
          exact ⟨rfl, hb⟩
      · have b1 : decide (64 < (s.size : Int)) = true := decide_eq_true (by omega)
        have HE : Hid (whyNo s = 32) := by
          show whyNo s = 32; unfold whyNo; rw [if_neg ht, if_pos (by unfold okName; simp [h64])]
        rw [HE.out]
        clear HE h0 ht
        go_enter Tryz.func48, Tryz.ntmps48
        go_wp2
        go_ret
        exact ⟨rfl, Below.refl _ _⟩
end Go.Proofs.YtggnjgmjfenibaaGreatDoor

-- commit.fill: the new bytes, piece by piece.
namespace Go.Proofs.YtggnjgmjfenibaaGreatDoor
open Go.RowKit
set_option linter.unusedVariables false
variable {PS : (Nat → Prop) → Nat → St → World → Prop}
set_option maxHeartbeats 4000000 in
theorem closeD (G : Nat → Prop) (q : Nat) (v : Vs) (b : Nat) (x : Hd) (u : FrameMode) (w : World) (h : PV PS G q v w) (hb : FileAt w b q x) :
    CallsD Tryz.prog 89 #[.pointer (some ⟨b, 0, none⟩)] u w fun e u' w' => u' = u ∧ (∃ ev, e = .returned ev ∧ ErrIs w' w.heap.size ⟨#[99, 108, 111, 115, 101]⟩ x.name (v.close x).1 ev ∧ FileAt w' b q (v.close x).2 ∧ Kp (fun k => k = b) w w') := by
  have HCl : Hid (Calls Tryz.prog 63 #[.pointer (some ⟨b, 0, none⟩)] w fun e w' => e = .returned (.bool (x.closed v)) ∧ ∃ n, w' = w.drewN n) := hClosed_c G q v b x w h hb
  have HFa : Hid (∀ (e : Nat) w, Calls Tryz.prog 55 #[.string ⟨#[99, 108, 111, 115, 101]⟩, .string x.name, .int .i64 e] w fun r w' => ∃ ev, r = .returned ev ∧ ErrIs w' w.heap.size ⟨#[99, 108, 111, 115, 101]⟩ x.name e ev ∧ Below w.heap.size w w') := fun e w => failed_c _ _ e w
  have HB : Hid (FileAt w b q x) := hb
  rcases hc : x.closed v with _ | _
  · have HE : Hid (v.close x = (0, { x with shut := true })) := by show _ = _; unfold Vs.close; rw [hc]; rfl
    rw [hc] at HCl
    have fz : ∀ n, (w.drewN n).frozen? ⟨b, 0, none⟩ = false ∧ ∃ u, (w.drewN n).cell? ⟨b, 0, none⟩ = some u := fun n => by
      have := HB.out
      unfold FileAt at this
      have h2 : (w.drewN n).heap[b]? = some (.cells (fileV q x) 146 (0, 0)) := by rw [(drewN_eq w n).1]; exact this
      exact ⟨Lib.frozen_of_heap h2 0, _, by rw [Lib.cell_of_heap h2]; rfl⟩
    have HFZ : Hid (∀ n, (w.drewN n).frozen? ⟨b, 0, none⟩ = false ∧ ∃ u, (w.drewN n).cell? ⟨b, 0, none⟩ = some u) := fz
    clear h hb hc fz
    go_enter_d Tryz.func89, Tryz.ntmps89
    go_wp2_with (go_at_call 63; refine HCl.out.mono ?_; rintro e w1 ⟨rfl, n1, rfl⟩; obtain ⟨fz, u, hu⟩ := HFZ.out n1)
    go_returns
    rw [HE.out]
    have hq := drewN_eq w n1
    refine ⟨_, rfl, .inl ⟨rfl, rfl⟩, ?_, ?_⟩
    · unfold FileAt
      have h2 : (w.drewN n1).heap[b]? = some (.cells (fileV q x) 146 (0, 0)) := by rw [hq.1]; exact HB.out
      rw [blk_set h2]; rfl
    · refine ⟨hq.2.1, hq.2.2.1, hq.2.2.2, by simp [World.setCell], fun k _ hk => ?_⟩
      rw [Below.heap_setCell _ _ _ _ (by show k ≠ b; exact hk), hq.1]
  · have HE : Hid (v.close x = (42, x)) := by show _ = _; unfold Vs.close; rw [hc]; rfl
    rw [hc] at HCl
    have HD : Hid (∀ n, (w.drewN n).cell? ⟨b, 1, none⟩ = some (.string x.name)) := fun n => by
      have h2 : (w.drewN n).heap[b]? = some (.cells (fileV q x) 146 (0, 0)) := by rw [(drewN_eq w n).1]; exact hb
      rw [Lib.cell_of_heap h2]; rfl
    clear h hb hc
    go_enter_d Tryz.func89, Tryz.ntmps89
    go_wp2_with (first
      | (go_at_call 63; refine HCl.out.mono ?_; rintro e w1 ⟨rfl, n1, rfl⟩; have d1 := HD.out n1)
      | (go_at_call 55; refine (HFa.out 42 _).mono ?_; rintro e w2 ⟨ev, rfl, he, hbb⟩))
    go_returns
    rw [HE.out]
    have hq := drewN_eq w n1
    have hb2 : Below w.heap.size w w2 := (below_drewN' w n1).trans (hbb.mono (by rw [hq.1]; exact Nat.le_refl _))
    refine ⟨ev, rfl, he.low (by rw [hq.1]; exact Nat.le_refl _), ?_, Kp.of_below hb2⟩
    exact (hb2.block b (Array.getElem?_eq_some_iff.1 HB.out).1).trans HB.out
/-- What calls have done, and the error that they told, beside the volume's memory; blocks of F may have turned. -/
def EDk (PS : (Nat → Prop) → Nat → St → World → Prop) (F G : Nat → Prop) (q : Nat) (v : Vs) (w w' : World) (op name : ByteArray) (e : Nat) (ev : Value) : Prop :=
  ∃ B, w.heap.size ≤ B ∧ B ≤ w'.heap.size ∧ ErrIs w' B op name e ev ∧ PV PS (fun k => G k ∨ (w.heap.size ≤ k ∧ k < B)) q v w' ∧ Kp F w w'
/-- The volume and a handle beside it, behind calls. -/
structure Fl (PS : (Nat → Prop) → Nat → St → World → Prop) (G0 : Nat → Prop) (q : Nat) (v : Vs) (b : Nat) (x : Hd) (w0 : World) (G : Nat → Prop) (w : World) : Prop where
  vol : PV PS G q v w
  sub : ∀ k, G k → G0 k ∨ w0.heap.size ≤ k
  sup : ∀ k, G0 k → G k
  out : ¬ G b
  file : FileAt w b q x
  kept : Kp G0 w0 w
theorem Kp.comp {F G : Nat → Prop} {a b c : World} (h : Kp F a b) (k : Kp G b c) (hs : ∀ i, G i → F i ∨ a.heap.size ≤ i) : Kp F a c :=
  ⟨k.os.trans h.os, k.tape.trans h.tape, k.output.trans h.output, Nat.le_trans h.size k.size, fun i hi hF => (k.block i (Nat.lt_of_lt_of_le hi h.size) fun hG => by rcases hs i hG with h' | h'; exact hF h'; omega).trans (h.block i hi hF)⟩
theorem FileAt.lt {w : World} {b q : Nat} {x : Hd} (h : FileAt w b q x) : b < w.heap.size := by
  unfold FileAt at h; exact (Array.getElem?_eq_some_iff.1 h).1
/-- A call more. -/
theorem Fl.next {G0 G : Nat → Prop} {q : Nat} {v v' : Vs} {b : Nat} {x : Hd} {w0 w w' : World} {op name : ByteArray} {e : Nat} {ev : Value} (h : Fl PS G0 q v b x w0 G w) (d : EDid PS G q v' w w' op name e ev) (hb0 : b < w0.heap.size) :
    EDid PS G0 q v' w0 w' op name e ev ∧ ∃ G', Fl PS G0 q v' b x w0 G' w' := by
  obtain ⟨B, h1, h2, h3, h4, h5⟩ := d
  have hs := h.kept.size
  have hlt := h.file.lt
  refine ⟨⟨B, by omega, h2, h3, h4.mono (fun k hk => ?_) (fun k hk => ?_), h.kept.comp h5 h.sub⟩, _, ⟨h4, fun k hk => ?_, fun k hk => .inl (h.sup k hk), fun hk => ?_, h.file.kept h5 h.out, h.kept.comp h5 h.sub⟩⟩
  · rcases hk with hk | hk
    · rcases h.sub k hk with h' | h'
      · exact .inl h'
      · exact .inr ⟨h', by have := h.vol.low k hk; omega⟩
    · exact .inr ⟨by omega, hk.2⟩
  · rcases hk with hk | hk
    · exact h4.low k (.inl (h.sup k hk))
    · omega
  · rcases hk with hk | hk
    · exact h.sub k hk
    · exact .inr (by omega)
  · rcases hk with hk | hk
    · exact h.out hk
    · omega
theorem EDid.shut (C : PC PS) {G : Nat → Prop} {q : Nat} {v : Vs} {b : Nat} {w w1 w2 : World} {op name : ByteArray} {e : Nat} {ev : Value} (h : EDid PS G q v w w1 op name e ev) (hb : b < w.heap.size) (hG : ¬ G b) (hk : Kp (fun k => k = b) w1 w2) : EDk PS (fun k => G k ∨ k = b) G q v w w2 op name e ev := by
  obtain ⟨B, h1, h2, h3, h4, h5⟩ := h
  refine ⟨B, h1, Nat.le_trans h2 hk.size, h3.kept hk (fun k hk => by omega), h4.same C hk.size (fun k hk' hl => hk.block k hl (fun e => ?_)), (h5.mono' fun k hk => .inl hk).trans (hk.mono' fun k hk => .inr hk)⟩
  subst e
  rcases hk' with h' | h'
  · exact hG h'
  · omega
def strSz : Value → Nat
  | .string s => s.size
  | _ => 0
def fillOp (a : Nat) : ByteArray := if a = 4 then ⟨#[119, 114, 105, 116, 101]⟩ else ⟨#[115, 121, 110, 99]⟩
theorem nP_lt' {data : ByteArray} {k : Nat} (h : k < nP data) : k * 512 < data.size := by unfold nP at h; omega
theorem rest_piece (data : ByteArray) (k m : Nat) (hm : m = min (data.extract (k * 512) data.size).size 512) : (data.extract (k * 512) data.size).extract 0 m = pieceOf data k := by
  have hs : (data.extract (k * 512) data.size).size = data.size - k * 512 := by rw [ByteArray.size_extract]; omega
  unfold pieceOf
  rw [ByteArray.extract_extract]
  rw [hs] at hm
  rw [Nat.add_zero]
  by_cases h : k * 512 ≤ data.size
  · rw [show min (k * 512 + m) data.size = min (k * 512 + 512) data.size by omega]
  · have e1 : data.extract (k * 512) (min (k * 512 + m) data.size) = ByteArray.empty := ByteArray.extract_eq_empty_iff.2 (by omega)
    have e2 : data.extract (k * 512) (min (k * 512 + 512) data.size) = ByteArray.empty := ByteArray.extract_eq_empty_iff.2 (by omega)
    rw [e1, e2]
theorem rest_rest (data : ByteArray) (k m : Nat) (hk : k < nP data) (hm : m = min (data.extract (k * 512) data.size).size 512) : (data.extract (k * 512) data.size).extract m (data.extract (k * 512) data.size).size = data.extract ((k + 1) * 512) data.size := by
  have hlt := nP_lt' hk
  have hs : (data.extract (k * 512) data.size).size = data.size - k * 512 := by rw [ByteArray.size_extract]; omega
  rw [ByteArray.extract_extract, hs]
  rw [hs] at hm
  by_cases h : (k + 1) * 512 ≤ data.size
  · rw [show k * 512 + m = (k + 1) * 512 by omega, show min (k * 512 + (data.size - k * 512)) data.size = data.size by omega]
  · have e1 : data.extract (k * 512 + m) (min (k * 512 + (data.size - k * 512)) data.size) = ByteArray.empty := ByteArray.extract_eq_empty_iff.2 (by omega)
    have e2 : data.extract ((k + 1) * 512) data.size = ByteArray.empty := ByteArray.extract_eq_empty_iff.2 (by omega)
    rw [e1, e2]
end Go.Proofs.YtggnjgmjfenibaaGreatDoor
