
-- What can be reached, plainly.
import Derived.Test.YtnnpdomfkedhpaaCP
namespace Go.Proofs.Ytnnpdomfkedhpaa
set_option linter.unusedVariables false
set_option maxRecDepth 100000
structure Ob where
  df : List ByteArray
  nd : List ByteArray
def obAt (O : List Ob) (x : Int × Int) : Option Ob := O[((x.2 - 8) / 2).toNat]?
def ndO (O : List Ob) (x : Int × Int) : List ByteArray := match obAt O x with
  | some o => o.nd
  | none => []
def dfO (O : List Ob) (x : Int × Int) : List ByteArray := match obAt O x with
  | some o => o.df
  | none => []
def plc (kf : Nat → Int) (i : Nat) : Int × Int := (kf i, 8 + 2 * (i : Int))
theorem obAt_plc (O : List Ob) (kf : Nat → Int) (i : Nat) : obAt O (plc kf i) = O[i]? := by
  unfold obAt plc
  have : ((8 + 2 * (i : Int) - 8) / 2).toNat = i := by omega
  simp only [this]
theorem plc_inj {kf : Nat → Int} {i j : Nat} (h : plc kf i = plc kf j) : i = j := by
  have := congrArg Prod.snd h
  simp only [plc] at this
  omega
theorem ndO_plc {O : List Ob} {kf : Nat → Int} {i : Nat} {o : Ob} (h : O[i]? = some o) : ndO O (plc kf i) = o.nd := by unfold ndO; rw [obAt_plc, h]
theorem dfO_plc {O : List Ob} {kf : Nat → Int} {i : Nat} {o : Ob} (h : O[i]? = some o) : dfO O (plc kf i) = o.df := by unfold dfO; rw [obAt_plc, h]
/-- libraries of objects, each name with one definer -/
structure Shv (O : List Ob) (kf : Nat → Int) (Ls : List (Int × Lb)) : Prop where
  uq : ∀ (i j : Nat) (a b : Ob) (n : ByteArray), O[i]? = some a → O[j]? = some b → n ∈ a.df → n ∈ b.df → i = j
  nu : ∀ a ∈ O, a.df.Nodup
  en : ∀ x ∈ Ls, ∀ e ∈ x.2.e, ∃ (i : Nat) (o : Ob), O[i]? = some o ∧ e.1 ∈ o.df ∧ (x.1, e.2) = plc kf i
  ix : ∀ x ∈ Ls, ∀ a j, idx x.2.a a = some j → ∃ (i : Nat) (o : Ob), O[i]? = some o ∧ (x.1, a) = plc kf i ∧ x.2.df.getD j [] = o.df ∧ x.2.nd.getD j [] = o.nd
  ob : ∀ (i : Nat) (o : Ob), O[i]? = some o → ∃ x ∈ Ls, x.1 = kf i ∧ (∃ j, idx x.2.a (8 + 2 * (i : Int)) = some j) ∧ ∀ n ∈ o.df, (n, 8 + 2 * (i : Int)) ∈ x.2.e
theorem foldD_new (l : List ByteArray) : ∀ s : Lk, (∀ n ∈ l, n ∉ s.d) → l.Nodup → (l.foldl defN s).d = s.d ++ l := by
  induction l with
  | nil => intro s _ _; simp
  | cons x r ih =>
    intro s h hn
    rw [List.foldl_cons]
    have hx : isIn s.d x = false := isIn_no.2 (h x (.head _))
    have hd : (defN s x).d = s.d ++ [x] := by unfold defN; simp only [hx]; rfl
    have hn2 := List.nodup_cons.1 hn
    rw [ih (defN s x) (fun n hm => ?_) hn2.2, hd, List.append_assoc]
    · rfl
    · rw [hd]
      intro hq
      rcases List.mem_append.1 hq with q | q
      · exact h n (.tail _ hm) q
      · exact hn2.1 (List.mem_singleton.1 q ▸ hm)
theorem foldD_iff (l : List ByteArray) : ∀ (s : Lk) (n : ByteArray), n ∈ (l.foldl defN s).w ↔ n ∈ s.w ∧ n ∉ l := by
  induction l with
  | nil => intro s n; simp
  | cons x r ih =>
    intro s n
    rw [List.foldl_cons, ih]
    have : n ∈ (defN s x).w ↔ n ∈ s.w ∧ n ≠ x := mem_woN
    rw [this, List.mem_cons, not_or, and_assoc]
theorem foldW_iff (l : List ByteArray) : ∀ (s : Lk) (n : ByteArray), n ∈ (l.foldl wantN s).w ↔ n ∈ s.w ∨ (n ∈ l ∧ n ∉ s.d) := by
  induction l with
  | nil => intro s n; simp
  | cons x r ih =>
    intro s n
    rw [List.foldl_cons, ih]
    have hd : (wantN s x).d = s.d := by unfold wantN; split <;> rfl
    rw [hd, List.mem_cons]
    by_cases hc : (isIn s.d x || isIn s.w x) = true
    · have hw : (wantN s x).w = s.w := by unfold wantN; rw [if_pos hc]
      rw [hw]
      constructor
      · rintro (q | ⟨q, q'⟩)
        · exact .inl q
        · exact .inr ⟨.inr q, q'⟩
      · rintro (q | ⟨q | q, q'⟩)
        · exact .inl q
        · subst q
          simp only [Bool.or_eq_true, isIn_iff] at hc
          rcases hc with c | c
          · exact absurd c q'
          · exact .inl c
        · exact .inr ⟨q, q'⟩
    · have hw : (wantN s x).w = s.w ++ [x] := by unfold wantN; rw [if_neg hc]
      simp only [Bool.or_eq_true, isIn_iff, not_or] at hc
      rw [hw, List.mem_append, List.mem_singleton]
      constructor
      · rintro ((q | q) | ⟨q, q'⟩)
        · exact .inl q
        · subst q; exact .inr ⟨.inl rfl, hc.1⟩
        · exact .inr ⟨.inr q, q'⟩
      · rintro (q | ⟨q | q, q'⟩)
        · exact .inl (.inl q)
        · exact .inl (.inr q)
        · exact .inr ⟨q, q'⟩
/-- how far a link has come -/
structure Rc (O : List Ob) (kf : Nat → Int) (roots : List ByteArray) (t : Lk) : Prop where
  p : ∀ y ∈ t.p, ∃ (i : Nat) (o : Ob), O[i]? = some o ∧ y = plc kf i
  a : ∀ n ∈ t.w, n ∉ t.d
  b : ∀ n, n ∈ roots ++ t.p.flatMap (ndO O) → n ∈ t.d ∨ n ∈ t.w
  d : t.d = t.p.flatMap (dfO O)
  u : t.p.Nodup
section
variable {O : List Ob} {kf : Nat → Int} {Ls : List (Int × Lb)} {roots : List ByteArray}
theorem rc_start : Rc O kf roots ⟨[], roots, []⟩ := ⟨fun y h => by simp at h, fun n _ h => by simp at h, fun n h => .inr (by simpa using h), rfl, List.nodup_nil⟩
theorem rc_one (hS : Shv O kf Ls) {num : Int} {L : Lb} (hL : (num, L) ∈ Ls) {t : Lk} (h : Rc O kf roots t) (e : ByteArray × Int) : Rc O kf roots (oneN L num t e) := by
  unfold oneN
  split
  · cases hj : idx L.a e.2 with
    | none => exact h
    | some j =>
      simp only
      by_cases hq : isIn t.p (num, e.2) = true
      · rw [if_pos hq]; exact h
      · rw [if_neg hq]
        have hn : (num, e.2) ∉ t.p := fun z => hq (isIn_iff.2 z)
        obtain ⟨i, o, ho, hp, hdf, hnd⟩ := hS.ix _ hL e.2 j hj
        simp only at hp hdf hnd
        rw [hdf, hnd]
        have fresh : ∀ n ∈ o.df, n ∉ t.d := fun n h1 h2 => by
          rw [h.d] at h2
          obtain ⟨y, hy, hny⟩ := List.mem_flatMap.1 h2
          obtain ⟨i', o', ho', rfl⟩ := h.p y hy
          rw [dfO_plc ho'] at hny
          have := hS.uq i i' o o' n ho ho' h1 hny
          subst this
          exact hn (hp ▸ hy)
        have hd1 := foldD_new o.df ⟨t.d, t.w, t.p ++ [(num, e.2)]⟩ fresh (hS.nu o (List.mem_of_getElem? ho))
        simp only at hd1
        have hd : (pullN t (num, e.2) o.df o.nd).d = t.d ++ o.df := by unfold pullN; rw [foldW_d2, hd1]
        have hw : ∀ n, n ∈ (pullN t (num, e.2) o.df o.nd).w ↔ (n ∈ t.w ∧ n ∉ o.df) ∨ (n ∈ o.nd ∧ n ∉ t.d ++ o.df) := fun n => by
          unfold pullN
          rw [foldW_iff, foldD_iff, hd1]
        have hpp := pullN_p t (num, e.2) o.df o.nd
        have hndp : ndO O (num, e.2) = o.nd := by rw [hp, ndO_plc ho]
        have hdfp : dfO O (num, e.2) = o.df := by rw [hp, dfO_plc ho]
        refine ⟨fun y hy => ?_, fun n hnw => ?_, fun n hnb => ?_, ?_, ?_⟩
        · rw [hpp] at hy
          rcases List.mem_append.1 hy with q | q
          · exact h.p y q
          · exact ⟨i, o, ho, by rw [List.mem_singleton.1 q]; exact hp⟩
        · rw [hd]
          rcases (hw n).1 hnw with ⟨q1, q2⟩ | ⟨_, q2⟩
          · intro z
            rcases List.mem_append.1 z with z | z
            · exact h.a n q1 z
            · exact q2 z
          · exact q2
        · rw [hpp, List.flatMap_append, List.flatMap_singleton, hndp, ← List.append_assoc] at hnb
          rw [hd, hw n]
          by_cases hin : n ∈ t.d ++ o.df
          · exact .inl hin
          · rcases List.mem_append.1 hnb with q | q
            · rcases h.b n q with z | z
              · exact .inl (List.mem_append.2 (.inl z))
              · exact .inr (.inl ⟨z, fun z2 => hin (List.mem_append.2 (.inr z2))⟩)
            · exact .inr (.inr ⟨q, hin⟩)
        · rw [hd, hpp, List.flatMap_append, List.flatMap_singleton, hdfp, ← h.d]
        · rw [hpp, List.nodup_append]
          exact ⟨h.u, List.nodup_cons.2 ⟨by simp, List.nodup_nil⟩, fun a ha b hb => by
            rw [List.mem_singleton.1 hb]
            intro e'
            exact hn (e' ▸ ha)⟩
  · exact h
theorem rc_fold (hS : Shv O kf Ls) {num : Int} {L : Lb} (hL : (num, L) ∈ Ls) (l : List (ByteArray × Int)) : ∀ t, Rc O kf roots t → Rc O kf roots (l.foldl (oneN L num) t) := by
  induction l with
  | nil => intro t h; exact h
  | cons x r ih => intro t h; rw [List.foldl_cons]; exact ih _ (rc_one hS hL h x)
theorem rc_group (hS : Shv O kf Ls) : Rc O kf roots (groupN Ls ⟨[], roots, []⟩) := group_ind (fun x hx t ht => rc_fold hS (num := x.1) (L := x.2) hx x.2.e t ht) rc_start
/-- whoever defines what is asked is in -/
theorem rc_closed (hS : Shv O kf Ls) {i : Nat} {o : Ob} {n : ByteArray} (ho : O[i]? = some o) (hn : n ∈ o.df) (ha : n ∈ roots ++ (groupN Ls ⟨[], roots, []⟩).p.flatMap (ndO O)) : plc kf i ∈ (groupN Ls ⟨[], roots, []⟩).p := by
  have h := rc_group (roots := roots) hS
  rcases h.b n ha with q | q
  · rw [h.d] at q
    obtain ⟨y, hy, hny⟩ := List.mem_flatMap.1 q
    obtain ⟨i', o', ho', rfl⟩ := h.p y hy
    rw [dfO_plc ho'] at hny
    have := hS.uq i i' o o' n ho ho' hn hny
    subst this
    exact hy
  · obtain ⟨⟨num, L⟩, hx, hk, ⟨j, hj⟩, he⟩ := hS.ob i o ho
    simp only at hk hj he
    have hq := group_quiet (s := ⟨[], roots, []⟩) hx (he n hn)
    have := quiet_pulled hq (isIn_iff.2 q) hj
    have := isIn_iff.1 this
    rw [hk] at this
    exact this
end
/-! ### the law's own search -/
def meetsB (a b : List ByteArray) : Bool := a.any fun x => isIn b x
theorem meetsB_iff {a b : List ByteArray} : meetsB a b = true ↔ ∃ n, n ∈ a ∧ n ∈ b := by
  unfold meetsB
  rw [List.any_eq_true]
  exact ⟨fun ⟨x, h1, h2⟩ => ⟨x, h1, isIn_iff.1 h2⟩, fun ⟨x, h1, h2⟩ => ⟨x, h1, isIn_iff.2 h2⟩⟩
abbrev Rst := List Bool × List ByteArray
def rstep (O : List Ob) (st : Rst) (i : Nat) : Rst := match O[i]? with
  | none => st
  | some o => if !(st.1.getD i false) && meetsB o.df st.2 then (st.1.set i true, st.2 ++ o.nd) else st
def rround (O : List Ob) (st : Rst) : Rst := (List.range O.length).foldl (rstep O) st
def riter (O : List Ob) : Nat → Rst → Rst
  | 0, st => st
  | n + 1, st => riter O n (rround O st)
def rcnt (st : Rst) : Nat := st.1.count true
theorem rcnt_set {l : List Bool} {i : Nat} (h : l[i]? = some false) : (l.set i true).count true = l.count true + 1 := by
  induction l generalizing i with
  | nil => simp at h
  | cons x r ih =>
    cases i with
    | zero => simp at h; subst h; simp
    | succ i =>
      have := ih (i := i) (by simpa using h)
      rw [List.set_cons_succ, List.count_cons, List.count_cons, this]
      omega
theorem rstep_or (O : List Ob) (st : Rst) (hl : st.1.length = O.length) (i : Nat) : rstep O st i = st ∨ (rcnt (rstep O st i) = rcnt st + 1 ∧ (rstep O st i).1.length = O.length) := by
  unfold rstep
  cases ho : O[i]? with
  | none => exact .inl rfl
  | some o =>
    simp only
    split
    · rename_i hc
      right
      simp only [Bool.and_eq_true, Bool.not_eq_true'] at hc
      have hi : i < st.1.length := by rw [hl]; exact (List.getElem?_eq_some_iff.1 ho).1
      have hf : st.1[i]? = some false := by
        rw [List.getD_eq_getElem?_getD, List.getElem?_eq_getElem hi] at hc
        rw [List.getElem?_eq_getElem hi]
        exact congrArg some hc.1
      exact ⟨rcnt_set hf, by rw [List.length_set]; exact hl⟩
    · exact .inl rfl
theorem rfold (O : List Ob) (l : List Nat) : ∀ st : Rst, st.1.length = O.length → (l.foldl (rstep O) st).1.length = O.length ∧ rcnt st ≤ rcnt (l.foldl (rstep O) st) ∧ (rcnt (l.foldl (rstep O) st) = rcnt st → l.foldl (rstep O) st = st ∧ ∀ i ∈ l, rstep O st i = st) := by
  induction l with
  | nil => intro st h; exact ⟨h, Nat.le_refl _, fun _ => ⟨rfl, fun i hi => by simp at hi⟩⟩
  | cons x r ih =>
    intro st h
    rw [List.foldl_cons]
    rcases rstep_or O st h x with e | ⟨e, hl⟩
    · rw [e]
      obtain ⟨h1, h2, h3⟩ := ih st h
      refine ⟨h1, h2, fun q => ⟨(h3 q).1, fun i hi => ?_⟩⟩
      rcases List.mem_cons.1 hi with rfl | hi
      · exact e
      · exact (h3 q).2 i hi
    · obtain ⟨h1, h2, h3⟩ := ih _ hl
      exact ⟨h1, by omega, fun q => by omega⟩
/-- nothing more comes in -/
def Rfix (O : List Ob) (st : Rst) : Prop := ∀ (i : Nat) (o : Ob), O[i]? = some o → meetsB o.df st.2 = true → st.1.getD i false = true
theorem rfix_of (O : List Ob) {st : Rst} (h : ∀ i ∈ List.range O.length, rstep O st i = st) (hl : st.1.length = O.length) : Rfix O st := by
  intro i o ho hm
  have hi : i < O.length := (List.getElem?_eq_some_iff.1 ho).1
  have := h i (List.mem_range.2 hi)
  unfold rstep at this
  rw [ho] at this
  simp only [hm, Bool.and_true] at this
  by_cases hq : st.1.getD i false = true
  · exact hq
  · have hf : st.1.getD i false = false := by simpa using hq
    rw [hf] at this
    simp only [Bool.not_false, if_true] at this
    have h2 := congrArg (fun s : Rst => s.1[i]?) this
    simp only at h2
    rw [List.getElem?_set_self (by omega)] at h2
    rw [List.getD_eq_getElem?_getD, ← h2]
    rfl
theorem riter_fix (O : List Ob) (n : Nat) : ∀ st : Rst, (∀ i ∈ List.range O.length, rstep O st i = st) → st.1.length = O.length → riter O n st = st := by
  induction n with
  | zero => intro st _ _; rfl
  | succ n ih =>
    intro st h hl
    have e : rround O st = st := by
      unfold rround
      have : ∀ l : List Nat, (∀ i ∈ l, i ∈ List.range O.length) → l.foldl (rstep O) st = st := by
        intro l
        induction l with
        | nil => intro _; rfl
        | cons x r ih2 =>
          intro hl2
          rw [List.foldl_cons, h x (hl2 x (.head _))]
          exact ih2 (fun i hi => hl2 i (.tail _ hi))
      exact this _ (fun _ h => h)
    show riter O n (rround O st) = st
    rw [e]
    exact ih st h hl
theorem riter_or (O : List Ob) (n : Nat) : ∀ st : Rst, st.1.length = O.length → (riter O n st).1.length = O.length ∧ (Rfix O (riter O n st) ∨ rcnt st + n ≤ rcnt (riter O n st)) := by
  induction n with
  | zero => intro st h; exact ⟨h, .inr (Nat.le_refl _)⟩
  | succ n ih =>
    intro st h
    obtain ⟨h1, h2, h3⟩ := rfold O (List.range O.length) st h
    by_cases e : rcnt (rround O st) = rcnt st
    · obtain ⟨e1, e2⟩ := h3 e
      have : riter O (n + 1) st = st := riter_fix O _ st e2 h
      rw [this]
      exact ⟨h, .inl (rfix_of O e2 h)⟩
    · obtain ⟨k1, k2⟩ := ih (rround O st) h1
      refine ⟨k1, ?_⟩
      rcases k2 with q | q
      · exact .inl q
      · right
        show rcnt st + (n + 1) ≤ rcnt (riter O n (rround O st))
        have : rcnt st ≤ rcnt (rround O st) := h2
        omega
theorem riter_closed (O : List Ob) (roots : List ByteArray) : Rfix O (riter O O.length (List.replicate O.length false, roots)) := by
  obtain ⟨h1, h2⟩ := riter_or O O.length (List.replicate O.length false, roots) (by simp)
  rcases h2 with q | q
  · exact q
  · intro i o ho _
    have hi : i < O.length := (List.getElem?_eq_some_iff.1 ho).1
    have hc : (riter O O.length (List.replicate O.length false, roots)).1.count true = (riter O O.length (List.replicate O.length false, roots)).1.length := by
      have := List.count_le_length (a := true) (l := (riter O O.length (List.replicate O.length false, roots)).1)
      unfold rcnt at q
      omega
    have hall := List.count_eq_length.1 hc
    rw [List.getD_eq_getElem?_getD, List.getElem?_eq_getElem (by omega)]
    exact (hall _ (List.getElem_mem _)).symm
end Go.Proofs.Ytnnpdomfkedhpaa
