
-- Plain mathematics: an archive, part by part.
import Derived.Test.YtnfplepaejjmfaaGreatDoorX0
import Derived.Test.YtnfplepaejjmfaaGreatDoorB0
namespace Go.Proofs.YtnfplepaejjmfaaGreatDoor
set_option linter.unusedVariables false
set_option maxRecDepth 100000

/-- a part as it is read; e: its refusal -/
structure Pt where
  h : Hd
  pos : Int
  fin : Int
  kind : Int
  f : Fl
  name : ByteArray
  data : ByteArray
  e : Int
/-- how far a file was gone through -/
structure Wk where
  pos : Nat
  cnt : Nat
  kind : Int
  idx : Bool
  tab : ByteArray

def formS (s : Int) : Int := if s = 1 then 1 else if s = 2 then 2 else if s = 8 then 3 else 0
abbrev ixS (s : Int) : Prop := s = 1 ∨ s = 2 ∨ s = 8
abbrev ordS (s : Int) : Prop := ¬ ixS s ∧ ¬ s = 3
theorem formS_ix (s : Int) : formS s = 0 ↔ ¬ ixS s := by
  unfold formS ixS; repeat' split
  all_goals omega

/-- the kind that the archive has behind this part -/
def kindW (s : Wk) (so : Int) : Int := if s.cnt = 0 ∧ ¬ s.kind = 1 then kindI so else s.kind
abbrev goesW (k so : Int) : Prop := (kindI so = 2) ↔ (k = 2)
abbrev placedW (s : Wk) (so : Int) : Prop := (ixS so → s.cnt = 0) ∧ (so = 3 → s.cnt = 0 ∨ (s.cnt = 1 ∧ s.idx = true))

/-- the data behind a header, and their newline -/
def dataW (b : ByteArray) (x : Pt) : Pt :=
  if x.kind = 1 ∧ ordS x.f.sort then { x with fin := x.pos + 60 }
  else if (b.size : Int) - (x.pos + 60) < x.h.size then { x with fin := x.pos + 60, e := 91 }
  else if x.h.size % 2 = 0 then { x with fin := x.pos + 60 + x.h.size, data := b.extract (x.pos + 60).toNat (x.pos + 60 + x.h.size).toNat }
  else if b.data.toList[(x.pos + 60 + x.h.size).toNat]? = some 10 then { x with fin := x.pos + 60 + x.h.size + 1, data := b.extract (x.pos + 60).toNat (x.pos + 60 + x.h.size).toNat }
  else { x with fin := x.pos + 60 + x.h.size, data := b.extract (x.pos + 60).toNat (x.pos + 60 + x.h.size).toNat, e := 92 }
/-- an ordinary member's name -/
def nameW (tab : ByteArray) (x : Pt) : Pt :=
  if x.f.sort = 4 ∨ x.f.sort = 6 then { x with name := x.f.name }
  else if x.f.sort = 5 then { x with name := (lookL tab.data.toList x.f.num).1, e := (lookL tab.data.toList x.f.num).2 }
  else if x.f.sort = 7 then { x with name := (inlineL x.data.data.toList x.f.num).1, data := (inlineL x.data.data.toList x.f.num).2.1, h := { x.h with size := ((inlineL x.data.data.toList x.f.num).2.1.size : Nat) }, e := (inlineL x.data.data.toList x.f.num).2.2 }
  else x
def pt0 : Pt := ⟨hd0, 0, 0, 0, fl0, ByteArray.empty, ByteArray.empty, 0⟩
/-- the header and its field -/
def headW (b : ByteArray) (i : Int) : Pt :=
  if (parseAt b i).2 = 0 then { pt0 with h := (parseAt b i).1, pos := i, f := (readL (parseAt b i).1.name.data.toList).1, e := (readL (parseAt b i).1.name.data.toList).2 }
  else { pt0 with pos := i, e := (parseAt b i).2 }
/-- the next part, or its refusal -/
def lookW (b : ByteArray) (s : Wk) : Pt :=
  if ¬ (headW b s.pos).e = 0 then headW b s.pos
  else if ¬ goesW (kindW s (headW b s.pos).f.sort) (headW b s.pos).f.sort then { headW b s.pos with kind := kindW s (headW b s.pos).f.sort, e := 94 }
  else if ¬ placedW s (headW b s.pos).f.sort then { headW b s.pos with kind := kindW s (headW b s.pos).f.sort, e := 93 }
  else if ¬ (dataW b { headW b s.pos with kind := kindW s (headW b s.pos).f.sort }).e = 0 then dataW b { headW b s.pos with kind := kindW s (headW b s.pos).f.sort }
  else nameW s.tab (dataW b { headW b s.pos with kind := kindW s (headW b s.pos).f.sort })
def passW (s : Wk) (x : Pt) : Wk := ⟨x.fin.toNat, s.cnt + 1, x.kind, decide (ixS x.f.sort), if x.f.sort = 3 then x.data else s.tab⟩

/-- what a part told goes into the archive -/
structure Mb where
  h : Hd
  data : ByteArray
structure Ar where
  kind : Int
  form : Int
  index : ByteArray
  stamp : Int
  mem : List Mb
  ats : List Int
def mbOf (x : Pt) : Mb := ⟨{ x.h with name := x.name }, x.data⟩
def addA (p : Ar) (x : Pt) : Ar :=
  if ordS x.f.sort then { p with kind := x.kind, mem := p.mem ++ [mbOf x], ats := p.ats ++ [x.pos] }
  else if ixS x.f.sort then { p with kind := x.kind, form := formS x.f.sort, index := x.data, stamp := x.h.date }
  else { p with kind := x.kind }
def ar0 (k : Int) : Ar := ⟨k, 0, ByteArray.empty, 0, [], []⟩

def mREG : List UInt8 := [33, 60, 97, 114, 99, 104, 62, 10]
def mTHIN : List UInt8 := [33, 60, 116, 104, 105, 110, 62, 10]
def kind0 (b : ByteArray) : Int := if b.data.toList.take 8 = mTHIN then 1 else 0
abbrev magic (b : ByteArray) : Prop := b.data.toList.take 8 = mREG ∨ b.data.toList.take 8 = mTHIN

/-- the walk behind k parts -/
def st (b : ByteArray) : Nat → Wk
  | 0 => ⟨8, 0, kind0 b, false, ByteArray.empty⟩
  | k + 1 => passW (st b k) (lookW b (st b k))
def pt (b : ByteArray) (k : Nat) : Pt := lookW b (st b k)
theorem st_succ (b : ByteArray) (k : Nat) : st b (k + 1) = passW (st b k) (pt b k) := rfl
abbrev good (b : ByteArray) (k : Nat) : Prop := (st b k).pos < b.size ∧ (pt b k).e = 0
/-- n parts are read, and no more -/
structure First (b : ByteArray) (n : Nat) : Prop where
  all : ∀ i, i < n → good b i
  last : ¬ good b n
theorem First.unique {b : ByteArray} {n m : Nat} (h : First b n) (k : First b m) : n = m := by
  rcases Nat.lt_trichotomy n m with l | l | l
  · exact absurd (k.all n l) h.last
  · exact l
  · exact absurd (h.all m l) k.last
def ptL (b : ByteArray) (k : Nat) : List Pt := (List.range k).map (pt b)
theorem ptL_succ (b : ByteArray) (k : Nat) : ptL b (k + 1) = ptL b k ++ [pt b k] := by
  unfold ptL; rw [List.range_succ, List.map_append]; rfl
theorem ptL_len (b : ByteArray) (k : Nat) : (ptL b k).length = k := by unfold ptL; simp
def arOf (b : ByteArray) (l : List Pt) : Ar := l.foldl addA (ar0 (kind0 b))
theorem arOf_snoc (b : ByteArray) (l : List Pt) (x : Pt) : arOf b (l ++ [x]) = addA (arOf b l) x := by
  unfold arOf; rw [List.foldl_append]; rfl
def arK (b : ByteArray) (k : Nat) : Ar := arOf b (ptL b k)
theorem arK_succ (b : ByteArray) (k : Nat) : arK b (k + 1) = addA (arK b k) (pt b k) := by
  unfold arK; rw [ptL_succ, arOf_snoc]

theorem headW_pos (b : ByteArray) (i : Int) : (headW b i).pos = i := by unfold headW; split <;> rfl
theorem headW_ok (b : ByteArray) (i : Int) (h : (headW b i).e = 0) : 0 ≤ i ∧ i + 60 ≤ b.size ∧ 0 ≤ (headW b i).h.size ∧ (headW b i).h = (parseAt b i).1 ∧ (parseAt b i).2 = 0 ∧ (headW b i).f = (readL (parseAt b i).1.name.data.toList).1 ∧ (readL (parseAt b i).1.name.data.toList).2 = 0 := by
  unfold headW at h ⊢
  by_cases hp : (parseAt b i).2 = 0
  · rw [if_pos hp] at h ⊢
    have hq := hp
    refine ⟨?_, ?_, ?_, rfl, hp, rfl, h⟩
    all_goals
      unfold parseAt at hq
      by_cases hi : i < 0 ∨ (b.size : Int) - 60 < i
      · rw [if_pos hi] at hq; simp at hq
    · omega
    · omega
    · show 0 ≤ (parseAt b i).1.size
      rw [if_neg hi] at hq
      unfold parseAt; rw [if_neg hi]
      unfold parseH at hq ⊢
      split
      · split
        · show (0 : Int) ≤ (hdOf _).size
          unfold hdOf; simp
        · show (0 : Int) ≤ hd0.size
          decide
      · show (0 : Int) ≤ hd0.size
        decide
  · rw [if_neg hp] at h; exact absurd h hp
theorem nameW_same (tab : ByteArray) (x : Pt) : (nameW tab x).pos = x.pos ∧ (nameW tab x).fin = x.fin ∧ (nameW tab x).kind = x.kind ∧ (nameW tab x).f = x.f := by
  unfold nameW; repeat' split
  all_goals exact ⟨rfl, rfl, rfl, rfl⟩
theorem dataW_same (b : ByteArray) (x : Pt) : (dataW b x).pos = x.pos ∧ (dataW b x).kind = x.kind ∧ (dataW b x).f = x.f ∧ (dataW b x).h = x.h ∧ (dataW b x).name = x.name := by
  unfold dataW; repeat' split
  all_goals exact ⟨rfl, rfl, rfl, rfl, rfl⟩
theorem dataW_fin (b : ByteArray) (x : Pt) (h0 : 0 ≤ x.h.size) (hx : x.pos + 60 ≤ b.size) (h1 : 0 ≤ x.pos) (he : (dataW b x).e = 0) : x.pos + 60 ≤ (dataW b x).fin ∧ (dataW b x).fin ≤ b.size := by
  unfold dataW at he ⊢
  split
  · exact ⟨Int.le_refl _, hx⟩
  · rename_i q1; rw [if_neg q1] at he
    split
    · rename_i q2; rw [if_pos q2] at he; simp at he
    · rename_i q2; rw [if_neg q2] at he
      split
      · show x.pos + 60 ≤ x.pos + 60 + x.h.size ∧ x.pos + 60 + x.h.size ≤ b.size; omega
      · rename_i q3; rw [if_neg q3] at he
        split
        · rename_i q4
          have := (List.getElem?_eq_some_iff.1 q4).1
          have hl : b.data.toList.length = b.size := by simp
          show x.pos + 60 ≤ x.pos + 60 + x.h.size + 1 ∧ x.pos + 60 + x.h.size + 1 ≤ b.size; omega
        · rename_i q4; rw [if_neg q4] at he; simp at he
/-- a part that is read -/
theorem lookW_ok (b : ByteArray) (s : Wk) (he : (lookW b s).e = 0) : (headW b s.pos).e = 0 ∧ goesW (kindW s (headW b s.pos).f.sort) (headW b s.pos).f.sort ∧ placedW s (headW b s.pos).f.sort ∧ (dataW b { headW b s.pos with kind := kindW s (headW b s.pos).f.sort }).e = 0 ∧ lookW b s = nameW s.tab (dataW b { headW b s.pos with kind := kindW s (headW b s.pos).f.sort }) := by
  unfold lookW at he ⊢
  by_cases q1 : ¬ (headW b s.pos).e = 0
  · rw [if_pos q1] at he; exact absurd he q1
  rw [if_neg q1] at he ⊢
  by_cases q2 : ¬ goesW (kindW s (headW b s.pos).f.sort) (headW b s.pos).f.sort
  · rw [if_pos q2] at he; simp at he
  rw [if_neg q2] at he ⊢
  by_cases q3 : ¬ placedW s (headW b s.pos).f.sort
  · rw [if_pos q3] at he; simp at he
  rw [if_neg q3] at he ⊢
  by_cases q4 : ¬ (dataW b { headW b s.pos with kind := kindW s (headW b s.pos).f.sort }).e = 0
  · rw [if_pos q4] at he; exact absurd he q4
  rw [if_neg q4]
  exact ⟨Classical.not_not.1 q1, Classical.not_not.1 q2, Classical.not_not.1 q3, Classical.not_not.1 q4, rfl⟩
theorem lookW_fin (b : ByteArray) (s : Wk) (he : (lookW b s).e = 0) : (s.pos : Int) + 60 ≤ (lookW b s).fin ∧ (lookW b s).fin ≤ b.size ∧ (lookW b s).pos = s.pos := by
  obtain ⟨h1, h2, h3, h4, h5⟩ := lookW_ok b s he
  obtain ⟨k1, k2, k3, _⟩ := headW_ok b s.pos h1
  have hp := headW_pos b s.pos
  have c := dataW_fin b { headW b s.pos with kind := kindW s (headW b s.pos).f.sort } k3 (by show (headW b s.pos).pos + 60 ≤ _; rw [hp]; exact k2) (by show 0 ≤ (headW b s.pos).pos; rw [hp]; exact k1) h4
  obtain ⟨n1, n2, n3, n4⟩ := nameW_same s.tab (dataW b { headW b s.pos with kind := kindW s (headW b s.pos).f.sort })
  obtain ⟨d1, d2, d3, d4, d5⟩ := dataW_same b { headW b s.pos with kind := kindW s (headW b s.pos).f.sort }
  have c1 : (headW b s.pos).pos + 60 ≤ _ := c.1
  rw [hp] at c1
  rw [h5, n2, n1, d1]
  exact ⟨c1, c.2, hp⟩
theorem lookW_pos (b : ByteArray) (s : Wk) : (lookW b s).pos = s.pos := by
  have hp := headW_pos b s.pos
  unfold lookW; repeat' split
  · exact hp
  · exact hp
  · exact hp
  · rw [(dataW_same b _).1]; exact hp
  · rw [(nameW_same _ _).1, (dataW_same b _).1]; exact hp
theorem st_pos (b : ByteArray) (h8 : 8 ≤ b.size) (k : Nat) : (∀ i, i < k → good b i) → 8 + 60 * k ≤ (st b k).pos ∧ (st b k).pos ≤ b.size := by
  induction k with
  | zero => intro _; exact ⟨Nat.le_refl _, h8⟩
  | succ k ih =>
    intro h
    have := ih (fun i hi => h i (by omega))
    have g := lookW_fin b (st b k) (h k (by omega)).2
    have e : (st b (k + 1)).pos = (lookW b (st b k)).fin.toNat := rfl
    omega
theorem st_cnt (b : ByteArray) (k : Nat) : (st b k).cnt = k := by
  induction k with
  | zero => rfl
  | succ k ih => show (st b k).cnt + 1 = k + 1; rw [ih]
end Go.Proofs.YtnfplepaejjmfaaGreatDoor
