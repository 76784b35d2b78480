
import Derived.Test.YtjbphheojfclcaaGreatP1
import Derived.Test.YtjbphheojfclcaaGreatMM
import Derived.Test.YtjbphheojfclcaaGreatE2m
import Derived.Lib.FrozenHead2
import Derived.Lib.UnsafeStr
import Derived.BigCall
import Derived.RegionTactic
import Derived.BigRegion
-- What holds of every directory: names that are names, rising; bodies unlike.
namespace Go.Proofs.YtjbphheojfclcaaGreat
open Go
set_option linter.unusedVariables false
theorem bl_irrefl (a : List UInt8) : Op.bytesLess a a = false := by
  induction a with
  | nil => rfl
  | cons x r ih => simp [Op.bytesLess, ih]
theorem bl_trans : ∀ (a b c : List UInt8), Op.bytesLess a b = true → Op.bytesLess b c = true → Op.bytesLess a c = true
  | _, [], _, h, _ => by cases ‹List UInt8› <;> simp [Op.bytesLess] at h
  | _, _ :: _, [], _, h => by simp [Op.bytesLess] at h
  | [], _ :: _, _ :: _, _, _ => rfl
  | x :: a, y :: b, z :: c, h1, h2 => by
    simp only [Op.bytesLess, Bool.or_eq_true, Bool.and_eq_true, beq_iff_eq, decide_eq_true_eq] at h1 h2 ⊢
    rcases h1 with h1 | ⟨rfl, h1⟩
    · rcases h2 with h2 | ⟨rfl, h2⟩
      · left; rw [UInt8.lt_iff_toNat_lt] at *; omega
      · left; exact h1
    · rcases h2 with h2 | ⟨rfl, h2⟩
      · left; exact h2
      · right; exact ⟨rfl, bl_trans a b c h1 h2⟩
theorem bl_total : ∀ (a b : List UInt8), Op.bytesLess a b = true ∨ a = b ∨ Op.bytesLess b a = true
  | [], [] => .inr (.inl rfl)
  | [], _ :: _ => .inl rfl
  | _ :: _, [] => .inr (.inr rfl)
  | x :: a, y :: b => by
    simp only [Op.bytesLess, Bool.or_eq_true, Bool.and_eq_true, beq_iff_eq, decide_eq_true_eq, List.cons.injEq]
    by_cases h : x = y
    · subst h
      rcases bl_total a b with h | h | h
      · exact .inl (.inr ⟨rfl, h⟩)
      · exact .inr (.inl ⟨rfl, h⟩)
      · exact .inr (.inr (.inr ⟨rfl, h⟩))
    · have hne : x.toNat ≠ y.toNat := fun e => h (UInt8.toNat_inj.1 e)
      rw [UInt8.lt_iff_toNat_lt, UInt8.lt_iff_toNat_lt]
      by_cases hl : x.toNat < y.toNat
      · exact .inl (.inl hl)
      · exact .inr (.inr (.inl (by omega)))
theorem ltB_irrefl (a : ByteArray) : ltB a a = false := bl_irrefl _
theorem ltB_trans {a b c : ByteArray} (h1 : ltB a b = true) (h2 : ltB b c = true) : ltB a c = true := bl_trans _ _ _ h1 h2
theorem ltB_total (a b : ByteArray) : ltB a b = true ∨ a = b ∨ ltB b a = true := by
  rcases bl_total a.toList b.toList with h | h | h
  · exact .inl h
  · refine .inr (.inl ?_)
    have := beq_toList a b
    rw [h] at this
    simpa using this.symm
  · exact .inr (.inr h)
structure Dw (d : Dr) : Prop where
  rise : d.Pairwise fun a b => ltB a.1 b.1 = true
  unlike : (d.map (·.2)).Nodup
  name : ∀ e ∈ d, okName e.1 = true
theorem Dw.nil : Dw [] := ⟨List.Pairwise.nil, by simp, by simp⟩
theorem dw_without {d : Dr} (h : Dw d) (n : ByteArray) : Dw (without d n) where
  rise := h.rise.filter _
  unlike := by
    unfold without
    exact (List.Sublist.map _ List.filter_sublist).nodup h.unlike
  name := fun e he => h.name e (without_mem _ _ _ he)
theorem without_name (d : Dr) (n : ByteArray) : ∀ e ∈ without d n, e.1 ≠ n := fun e he => by simpa using (List.mem_filter.1 he).2
theorem ins_rise (n : ByteArray) (b : Nat) (d : Dr) (h : d.Pairwise fun a b => ltB a.1 b.1 = true) (hn : ∀ e ∈ d, e.1 ≠ n) : (ins n b d).Pairwise fun a b => ltB a.1 b.1 = true := by
  induction d with
  | nil => simp [ins]
  | cons e r ih =>
    rw [List.pairwise_cons] at h
    unfold ins
    split
    · rename_i hlt
      rw [List.pairwise_cons, List.pairwise_cons]
      refine ⟨fun x hx => ?_, h.1, h.2⟩
      rcases List.mem_cons.1 hx with rfl | hx
      · exact hlt
      · exact ltB_trans hlt (h.1 x hx)
    · rename_i hlt
      rw [List.pairwise_cons]
      refine ⟨fun x hx => ?_, ih h.2 fun x hx => hn x (List.mem_cons_of_mem _ hx)⟩
      rcases ins_mem _ _ _ _ hx with rfl | hx
      · rcases ltB_total n e.1 with h' | h' | h'
        · exact absurd h' hlt
        · exact absurd h'.symm (hn e (by simp))
        · exact h'
      · exact h.1 x hx
theorem ins_perm (n : ByteArray) (b : Nat) (d : Dr) : (ins n b d).Perm ((n, b) :: d) := by
  induction d with
  | nil => exact List.Perm.refl _
  | cons e r ih =>
    unfold ins
    split
    · exact List.Perm.refl _
    · exact (List.Perm.cons e ih).trans (List.Perm.swap _ _ _)
theorem dw_with {d : Dr} (h : Dw d) (n : ByteArray) (b : Nat) (hn : okName n = true) (hb : ∀ e ∈ d, e.1 ≠ n → e.2 ≠ b) : Dw (with_ d n b) where
  rise := ins_rise n b _ (dw_without h n).rise (without_name d n)
  unlike := by
    have hp := (ins_perm n b (without d n)).map (·.2)
    refine hp.nodup_iff.2 ?_
    rw [List.map_cons, List.nodup_cons]
    refine ⟨fun hm => ?_, (dw_without h n).unlike⟩
    obtain ⟨e, he, h2⟩ := List.mem_map.1 hm
    exact hb e (without_mem _ _ _ he) (without_name _ _ e he) h2
  name := fun e he => by
    rcases ins_mem _ _ _ _ he with rfl | he
    · exact hn
    · exact h.name e (without_mem _ _ _ he)
theorem dw_uniq {d : Dr} (h : Dw d) {e f : ByteArray × Nat} (he : e ∈ d) (hf : f ∈ d) (hn : e.1 = f.1) : e = f := by
  have hr := h.rise
  clear h
  induction d with
  | nil => simp at he
  | cons x r ih =>
    rw [List.pairwise_cons] at hr
    rcases List.mem_cons.1 he with rfl | he2
    · rcases List.mem_cons.1 hf with rfl | hf
      · rfl
      · have := hr.1 f hf; rw [hn, ltB_irrefl] at this; cases this
    · rcases List.mem_cons.1 hf with rfl | hf
      · have := hr.1 e he2; rw [hn, ltB_irrefl] at this; cases this
      · exact ih he2 hf hr.2
theorem dw_uniqB {d : Dr} (h : Dw d) {e f : ByteArray × Nat} (he : e ∈ d) (hf : f ∈ d) (hn : e.2 = f.2) : e = f := by
  have hr := h.unlike
  clear h
  induction d with
  | nil => simp at he
  | cons x r ih =>
    rw [List.map_cons, List.nodup_cons] at hr
    rcases List.mem_cons.1 he with rfl | he2
    · rcases List.mem_cons.1 hf with rfl | hf
      · rfl
      · exact absurd (List.mem_map.2 ⟨f, hf, hn.symm⟩) hr.1
    · rcases List.mem_cons.1 hf with rfl | hf
      · exact absurd (List.mem_map.2 ⟨e, he2, hn⟩) hr.1
      · exact ih he2 hf hr.2
theorem leads_ne (d : Dr) (e : ByteArray × Nat) (he : e ∈ d) (hp : ∀ f ∈ d, f.2 ≠ 0) : leads d e.1 ≠ 0 := by
  induction d with
  | nil => simp at he
  | cons x r ih =>
    unfold leads
    split
    · exact hp x (by simp)
    · rename_i hx
      rcases List.mem_cons.1 he with rfl | he2
      · exact absurd rfl hx
      · exact ih he2 fun f hf => hp f (List.mem_cons_of_mem _ hf)
theorem dw_leads {d : Dr} (h : Dw d) {e : ByteArray × Nat} (he : e ∈ d) (hp : ∀ f ∈ d, f.2 ≠ 0) : leads d e.1 = e.2 := by
  have := dw_uniq h (leads_mem d e.1 (leads_ne d e he hp)) he rfl
  exact congrArg Prod.snd this
def DW (st : St) : Prop := ∀ d ∈ st.dirs, Dw d
theorem DW.now {st : St} (h : DW st) (hw : Wf st) : Dw st.now := h _ (now_mem hw)
theorem DW.add {st : St} (h : DW st) {d : Dr} (hd : Dw d) : DW { st with dirs := st.dirs ++ [d] } := fun x hx => by
  rcases List.mem_append.1 hx with hx | hx
  · exact h x hx
  · simp at hx; subst hx; exact hd
theorem DW.one {st : St} {d : Dr} (hd : Dw d) (bs : List Bd) : DW { st with bodies := bs, dirs := [d] } := fun x hx => by
  simp at hx; subst hx; exact hd
theorem new_DW (c : Nat) : DW (St.new c) := fun d hd => by
  simp [St.new] at hd; subst hd; exact Dw.nil
theorem step_DW {st : St} (h : DW st) (hw : Wf st) (o : Opx) : DW (st.step o) := by
  have hnow := h.now hw
  unfold St.step
  split
  · unfold St.create
    split
    · exact h
    · split
      · exact h
      · rename_i hok hfull
        refine DW.add (st := { st with bodies := st.bodies ++ [_] }) h (dw_with hnow _ _ (by simpa using hok) fun e he _ => ?_)
        have := (hw.led _ (now_mem hw) e he).2
        omega
  split
  · unfold St.append
    split
    · exact h
    · split <;> exact h
  split
  · unfold St.sync
    split <;> exact h
  split
  · exact DW.one hnow _
  split
  · unfold St.rename
    split
    · exact h
    · split
      · exact h
      · split
        · exact h
        · rename_i hok hz hne
          have hok2 : okName o.b = true := by
            cases hb : okName o.b with
            | true => rfl
            | false => exact absurd (Or.inr hb) hok
          refine h.add (dw_with (dw_without hnow _) _ _ hok2 fun e he _ e2 => ?_)
          have := dw_uniqB hnow (without_mem _ _ _ he) (leads_mem _ _ hz) e2
          exact without_name _ _ e he (by rw [this])
  split
  · unfold St.remove
    split
    · exact h
    · split
      · exact h
      · exact h.add (dw_without hnow _)
  split
  · obtain ⟨m, _, _, hm⟩ := cutDir_get hw o.n
    exact DW.one (h _ (List.mem_of_getElem? hm)) _
  · exact h
end Go.Proofs.YtjbphheojfclcaaGreat

-- What an Append does to what is told.
namespace Go.Proofs.YtjbphheojfclcaaGreat
open Go
set_option linter.unusedVariables false
theorem there_mem {d : Dr} {n : Int} (h : there d n = true) : ∃ e ∈ d, (e.2 : Int) = n := by
  unfold there at h
  rw [List.any_eq_true] at h
  obtain ⟨e, he, hn⟩ := h
  exact ⟨e, he, by simpa using hn⟩
theorem szOf_set_same (bs : List Bd) (i : Nat) (b : Bd) (h : i < bs.length) : szOf (bs.set i b) (i + 1) = b.data.size := by
  unfold szOf
  rw [show i + 1 - 1 = i by omega, List.getElem?_set]
  simp [h]
theorem szOf_set_other (bs : List Bd) (i j : Nat) (b : Bd) (h : j - 1 ≠ i) : szOf (bs.set i b) j = szOf bs j := by
  unfold szOf
  rw [List.getElem?_set, if_neg (fun e => h e.symm)]
/-- One body's length turned: the sum of the directory that holds it once. -/
theorem usedIn_set (bs : List Bd) (d : Dr) (i : Nat) (b b' : Bd) (hb : bs[i]? = some b) (hu : (d.map (·.2)).Nodup) (hp : ∀ e ∈ d, 1 ≤ e.2) (hm : ∃ e ∈ d, e.2 = i + 1) : usedIn (bs.set i b') d + b.data.size = usedIn bs d + b'.data.size := by
  have hil : i < bs.length := by
    rcases Nat.lt_or_ge i bs.length with h' | h'
    · exact h'
    · rw [List.getElem?_eq_none h'] at hb; cases hb
  have hsz : szOf bs (i + 1) = b.data.size := by unfold szOf; rw [show i + 1 - 1 = i by omega, hb]
  have none_ : ∀ l : Dr, (∀ e ∈ l, 1 ≤ e.2) → (∀ e ∈ l, e.2 ≠ i + 1) → usedIn (bs.set i b') l = usedIn bs l := by
    intro l h1 h2
    unfold usedIn
    congr 1
    apply List.map_congr_left
    intro e he
    have := h1 e he
    have := h2 e he
    exact szOf_set_other bs i e.2 b' (by omega)
  induction d with
  | nil => obtain ⟨e, he, _⟩ := hm; simp at he
  | cons x r ih =>
    rw [List.map_cons, List.nodup_cons] at hu
    have hcons : ∀ bs : List Bd, usedIn bs (x :: r) = szOf bs x.2 + usedIn bs r := fun bs => by simp [usedIn]
    rw [hcons, hcons]
    by_cases hx : x.2 = i + 1
    · have hr : ∀ e ∈ r, e.2 ≠ i + 1 := fun e he e2 => hu.1 (List.mem_map.2 ⟨e, he, by rw [e2, hx]⟩)
      rw [none_ r (fun e he => hp e (List.mem_cons_of_mem _ he)) hr, hx, szOf_set_same bs i b' hil, hsz]
      omega
    · have hx1 := hp x (by simp)
      rw [szOf_set_other bs i x.2 b' (by omega)]
      have := ih hu.2 (fun e he => hp e (List.mem_cons_of_mem _ he)) (by
        obtain ⟨e, he, h2⟩ := hm
        rcases List.mem_cons.1 he with rfl | he
        · exact absurd h2 hx
        · exact ⟨e, he, h2⟩)
      omega
/-- What is told of a body behind a call that puts another one in its place. -/
theorem put_at {st : St} (hw : Wf st) {n : Int} {b b' : Bd} (h : st.at_ n = some b) : (st.put n b').at_ n = some b' := by
  have ht : there st.now n = true := by
    unfold St.at_ at h
    split at h
    · assumption
    · cases h
  have hb : st.bodies[n.toNat - 1]? = some b := by unfold St.at_ at h; rw [if_pos ht] at h; exact h
  have hl : n.toNat - 1 < st.bodies.length := by
    rcases Nat.lt_or_ge (n.toNat - 1) st.bodies.length with h' | h'
    · exact h'
    · rw [List.getElem?_eq_none h'] at hb; cases hb
  unfold St.at_
  rw [if_pos (show there (st.put n b').now n = true from ht)]
  show (st.bodies.set (n.toNat - 1) b')[n.toNat - 1]? = _
  rw [List.getElem?_set]
  simp [hl]
theorem put_used {st : St} (hw : Wf st) (hd : DW st) {n : Int} {b b' : Bd} (h : st.at_ n = some b) : (st.put n b').used + b.data.size = st.used + b'.data.size := by
  have ht : there st.now n = true := by
    unfold St.at_ at h
    split at h
    · assumption
    · cases h
  have hb : st.bodies[n.toNat - 1]? = some b := by unfold St.at_ at h; rw [if_pos ht] at h; exact h
  obtain ⟨e, he, hn⟩ := there_mem ht
  have hpos : ∀ f ∈ st.now, 1 ≤ f.2 := fun f hf => (hw.led _ (now_mem hw) f hf).1
  have := hpos e he
  exact usedIn_set st.bodies st.now (n.toNat - 1) b b' hb (hd.now hw).unlike hpos ⟨e, he, by omega⟩
end Go.Proofs.YtjbphheojfclcaaGreat

-- The program's own bookkeeping, as plain data: changes of a directory, and the directories that they lead through.
namespace Go.Proofs.YtjbphheojfclcaaGreat
open Go
set_option linter.unusedVariables false
structure Chg where
  fr : ByteArray
  to : ByteArray
  num : Nat
def Chg.app (c : Chg) (d : Dr) : Dr := if c.to = ⟨#[]⟩ then without d c.fr else with_ (without d c.fr) c.to c.num
def Chg.vs (c : Chg) : List Value := [.string c.fr, .string c.to, .int .i64 c.num]
def endOf (d : Dr) (cs : List Chg) : Dr := cs.foldl (fun x c => c.app x) d
def chain (d : Dr) : List Chg → List Dr
  | [] => [d]
  | c :: r => d :: chain (c.app d) r
theorem chain_len (d : Dr) (cs : List Chg) : (chain d cs).length = cs.length + 1 := by
  induction cs generalizing d with
  | nil => rfl
  | cons c r ih => simp [chain, ih]
theorem chain_snoc (d : Dr) (cs : List Chg) (c : Chg) : chain d (cs ++ [c]) = chain d cs ++ [c.app (endOf d cs)] := by
  induction cs generalizing d with
  | nil => rfl
  | cons x r ih => simp [chain, ih, endOf]
theorem chain_get (d : Dr) (cs : List Chg) (k : Nat) (h : k ≤ cs.length) : (chain d cs)[k]? = some (endOf d (cs.take k)) := by
  induction cs generalizing d k with
  | nil => simp at h; subst h; rfl
  | cons c r ih =>
    cases k with
    | zero => rfl
    | succ k => simp at h; simp [chain, ih _ k h, endOf]
theorem chain_last (d : Dr) (cs : List Chg) : (chain d cs).getLast? = some (endOf d cs) := by
  rw [List.getLast?_eq_getElem?, chain_len, Nat.add_sub_cancel, chain_get d cs _ (Nat.le_refl _), List.take_length]
theorem endOf_take (d : Dr) (cs : List Chg) (k : Nat) (c : Chg) (h : cs[k]? = some c) : endOf d (cs.take (k + 1)) = c.app (endOf d (cs.take k)) := by
  rw [List.take_add_one, h]; simp [endOf]
theorem chain_head (d : Dr) (cs : List Chg) : (chain d cs)[0]? = some d := by
  rw [chain_get d cs 0 (Nat.zero_le _)]; rfl
/-- A directory as a map's pairs. -/
def dv (d : Dr) : Prs := d.map fun e => (.string e.1, .int .i64 e.2)
/-- Bodies by number: pairs of numbers and blocks. -/
def bv (l : List (Nat × Nat)) : Prs := l.map fun e => (.int .i64 e.1, .pointer (some ⟨e.2, 0, none⟩))
abbrev DN (d : Dr) : Prop := d.Pairwise fun a b => a.1 ≠ b.1
theorem Dw.dn {d : Dr} (h : Dw d) : DN d := h.rise.imp_of_mem fun {a b} _ _ hlt e => by rw [e, ltB_irrefl] at hlt; cases hlt
theorem without_of_not (d : Dr) (n : ByteArray) (h : ∀ e ∈ d, e.1 ≠ n) : without d n = d := List.filter_eq_self.2 fun e he => by simpa using h e he
theorem without_perm {d : Dr} (hd : DN d) {n : ByteArray} {x : Nat} (h : (n, x) ∈ d) : d.Perm ((n, x) :: without d n) := by
  induction d with
  | nil => simp at h
  | cons e r ih =>
    obtain ⟨h1, h2⟩ := List.pairwise_cons.1 hd
    rcases List.mem_cons.1 h with he | he
    · subst he
      have : without ((n, x) :: r) n = r := by
        unfold without
        rw [List.filter_cons_of_neg (by simp)]
        exact List.filter_eq_self.2 fun f hf => by simpa using (h1 f hf).symm
      rw [this]
    · have hne : e.1 ≠ n := h1 _ he
      have : without (e :: r) n = e :: without r n := by
        unfold without
        rw [List.filter_cons_of_pos (by simpa using hne)]
      rw [this]
      exact ((ih h2 he).cons e).trans (List.Perm.swap _ _ _)
theorem leads_zero {d : Dr} (hp : ∀ e ∈ d, 1 ≤ e.2) {n : ByteArray} (h : leads d n = 0) : ∀ e ∈ d, e.1 ≠ n := fun e he hn => by
  subst hn
  exact leads_ne d e he (fun f hf => by have := hp f hf; omega) h
theorem dv_mem {d : Dr} {n : ByteArray} {x : Nat} (h : (n, x) ∈ d) : (Value.string n, Value.int .i64 x) ∈ dv d := List.mem_map.2 ⟨(n, x), h, rfl⟩
theorem dv_no {d : Dr} {n : ByteArray} (h : ∀ e ∈ d, e.1 ≠ n) : ∀ p ∈ dv d, p.1 ≠ Value.string n := by
  intro p hp
  obtain ⟨e, he, rfl⟩ := List.mem_map.1 hp
  intro hv
  exact h e he (by simpa using hv)
theorem dv_dn {d : Dr} (h : (dv d).Pairwise fun p q => p.1 ≠ q.1) : DN d := by
  unfold dv at h
  rw [List.pairwise_map] at h
  exact h.imp_of_mem fun {a b} _ _ hne e => hne (by simp [e])
theorem bv_mem {l : List (Nat × Nat)} {n b : Nat} (h : (n, b) ∈ l) : (Value.int .i64 n, Value.pointer (some ⟨b, 0, none⟩)) ∈ bv l := List.mem_map.2 ⟨(n, b), h, rfl⟩
theorem bv_no {l : List (Nat × Nat)} {n : Int} (h : ∀ e ∈ l, (e.1 : Int) ≠ n) : ∀ p ∈ bv l, p.1 ≠ Value.int .i64 n := by
  intro p hp
  obtain ⟨e, he, rfl⟩ := List.mem_map.1 hp
  intro hv
  exact h e he (by simpa using hv)
theorem bv_uniq {l : List (Nat × Nat)} (h : (bv l).Pairwise fun p q => p.1 ≠ q.1) : (l.map (·.1)).Nodup := by
  unfold bv at h
  rw [List.pairwise_map] at h
  rw [List.Nodup, List.pairwise_map]
  exact h.imp_of_mem fun {a b} _ _ hne e => hne (by simp [e])
theorem key_s (s : ByteArray) : MapKept.IsKey .string (.string s) := trivial
theorem key_i (n : Int) : MapKept.IsKey (.int .i64) (.int .i64 n) := rfl
section
variable {P : Program} {w : World} {b : Nat} {t k e : TypeId}
theorem dv_look (c : Bool) {d : Dr} (h : MapAt .string w b (dv d)) (hp : ∀ e ∈ d, 1 ≤ e.2) (ht : P.underlying t = some (.map k e)) (hd : P.underlying k = some .string) (hz : (zeroValue e).run P w = .ok (.int .i64 0) w) (n : ByteArray) :
    (Instr.lookup t (.map (some b)) (.string n) c).run P w = .ok (if c then .tuple #[.int .i64 (leads d n), .bool (decide (leads d n ≠ 0))] else .int .i64 (leads d n)) w := by
  by_cases h0 : leads d n = 0
  · rw [h.look_no c ht hd (key_s n) (dv_no (leads_zero hp h0)) hz, h0]; simp
  · rw [h.look c ht hd (key_s n) (dv_mem (leads_mem d n h0))]; simp [h0]
theorem dv_drop {d : Dr} (h : MapAt .string w b (dv d)) (ht : P.underlying t = some (.map k e)) (hd : P.underlying k = some .string) (n : ByteArray) (ty : TypeId) :
    ∃ w', (Builtin.delete_ #[t, k] ty #[.map (some b), .string n]).run P w = .ok (.tuple #[]) w' ∧ MapAt .string w' b (dv (without d n)) ∧ Turned w w' b := by
  by_cases hn : ∃ x, (n, x) ∈ d
  · obtain ⟨x, hx⟩ := hn
    exact h.drop ht hd (key_s n) (v := .int .i64 x) (l0 := dv (without d n)) ((without_perm (dv_dn h.apart) hx).map _) ty
  · have hno : ∀ e ∈ d, e.1 ≠ n := fun e he hen => hn ⟨e.2, by rw [← hen]; exact he⟩
    rw [without_of_not d n hno]
    exact h.drop_no ht hd (key_s n) (dv_no hno) ty
theorem dv_store {d : Dr} (h : MapAt .string w b (dv d)) (ht : P.underlying t = some (.map k e)) (hd : P.underlying k = some .string) (n : ByteArray) (x : Nat) :
    ∃ w', (Instr.mapUpdate t (.map (some b)) (.string n) (.int .i64 x)).run P w = .ok () w' ∧ MapAt .string w' b (dv (with_ d n x)) ∧ Turned w w' b := by
  have hperm : (dv (with_ d n x)).Perm ((.string n, .int .i64 x) :: dv (without d n)) := (ins_perm n x (without d n)).map _
  by_cases hn : ∃ y, (n, y) ∈ d
  · obtain ⟨y, hy⟩ := hn
    obtain ⟨w', h1, h2, h3⟩ := h.store_old ht hd (key_s n) (v := .int .i64 y) (l0 := dv (without d n)) ((without_perm (dv_dn h.apart) hy).map _) (.int .i64 x)
    exact ⟨w', h1, h2.perm hperm.symm, h3⟩
  · have hno : ∀ e ∈ d, e.1 ≠ n := fun e he hen => hn ⟨e.2, by rw [← hen]; exact he⟩
    obtain ⟨w', h1, h2, h3⟩ := h.store_new ht hd (key_s n) (dv_no hno) (.int .i64 x)
    rw [without_of_not d n hno] at hperm
    exact ⟨w', h1, h2.perm hperm.symm, h3⟩
end
theorem dv_len (d : Dr) : (dv d).length = d.length := by simp [dv]
theorem bv_len (l : List (Nat × Nat)) : (bv l).length = l.length := by simp [bv]
end Go.Proofs.YtjbphheojfclcaaGreat

-- The program's volume in memory.
namespace Go.Proofs.YtjbphheojfclcaaGreat
open Go.RowKit
set_option linter.unusedVariables false
def bodyV (x : Bd) (ad v : Value) : Array Value := #[.int .i64 x.date, .int .i64 x.uid, .int .i64 x.gid, .int .i64 x.mode, ad, v, .int .i64 x.safe]
/-- Block b is the body x. -/
def BodyAt (w : World) (b : Nat) (x : Bd) : Prop :=
  ∃ ad v, w.heap[b]? = some (.cells (bodyV x ad v) 147 (0, 0)) ∧ (ad = .pointer none ∨ ad = .pointer (some ⟨b, 4, none⟩)) ∧ w.ownsRowF 0 5 1 v x.data.size (Lib.byteCells x.data.data.toList)
/-- The block of a body's bytes. -/
def bufOf (w : World) (b : Nat) : Option Nat := match w.heap[b]? with | some (.cells cs _ _) => (cs[5]?).bind Value.ownBlock | _ => none
theorem bufOf_eq {w : World} {b : Nat} {x : Bd} {ad v : Value} {t : TypeId} {fr : Nat × Nat} (h : w.heap[b]? = some (.cells (bodyV x ad v) t fr)) : bufOf w b = v.ownBlock := by
  simp [bufOf, h, bodyV]
theorem ownF_keep {w w' : World} {B : Nat} {e : TypeId} {size : Nat} {v : Value} {n : Nat} {xs : List Value} (h : w.ownsRowF B e size v n xs) (hk : ∀ k, v.ownBlock = some k → w'.heap[k]? = w.heap[k]?) : w'.ownsRowF B e size v n xs := by
  refine ⟨h.1, ?_⟩
  rcases h.2 with h | ⟨g, cap, cur, fz, rfl, hg, hh, r⟩
  · exact .inl h
  · exact .inr ⟨g, cap, cur, fz, rfl, hg, by rw [hk g rfl]; exact hh, r⟩
theorem ownF_typed {w : World} {B : Nat} {e : TypeId} {size : Nat} {v : Value} {n : Nat} {xs : List Value} (h : w.ownsRowF B e size v n xs) {k : Nat} (hk : v.ownBlock = some k) : ∃ cur fz, w.heap[k]? = some (.cells cur e fz) := by
  rcases h.2 with ⟨rfl, _⟩ | ⟨g, cap, cur, fz, rfl, hg, hh, r⟩
  · cases hk
  · simp only [Value.ownBlock, Option.some.injEq] at hk; subst hk; exact ⟨cur, fz, hh⟩
theorem ownF_shape {w : World} {B : Nat} {e : TypeId} {size : Nat} {v : Value} {n : Nat} {xs : List Value} (h : w.ownsRowF B e size v n xs) : ∃ ao c, v = .slice ao n c := by
  rcases h.2 with ⟨rfl, rfl⟩ | ⟨g, cap, cur, fz, rfl, _⟩
  · exact ⟨_, _, rfl⟩
  · exact ⟨_, _, rfl⟩
theorem BodyAt.keep {w w' : World} {b : Nat} {x : Bd} (h : BodyAt w b x) (hb : w'.heap[b]? = w.heap[b]?) (hk : ∀ k, bufOf w b = some k → w'.heap[k]? = w.heap[k]?) : BodyAt w' b x := by
  obtain ⟨ad, v, hh, had, hown⟩ := h
  refine ⟨ad, v, hb.trans hh, had, ownF_keep hown fun k hk' => hk k ?_⟩
  rw [bufOf_eq hh]; exact hk'
theorem bufOf_keep {w w' : World} {b : Nat} (hb : w'.heap[b]? = w.heap[b]?) : bufOf w' b = bufOf w b := by unfold bufOf; rw [hb]
theorem BodyAt.blk {w : World} {b : Nat} {x : Bd} (h : BodyAt w b x) : ∃ cs, w.heap[b]? = some (.cells cs 147 (0, 0)) := by
  obtain ⟨ad, v, hh, _⟩ := h; exact ⟨_, hh⟩
theorem BodyAt.buf {w : World} {b : Nat} {x : Bd} (h : BodyAt w b x) {k : Nat} (hk : bufOf w b = some k) : ∃ cur fz, w.heap[k]? = some (.cells cur 5 fz) := by
  obtain ⟨ad, v, hh, had, hown⟩ := h
  rw [bufOf_eq hh] at hk
  exact ownF_typed hown hk
/-- Bodies by number, each in a block of its own. -/
structure Bods (F : Nat → Prop) (w : World) (bs : List Bd) (L : List (Nat × Nat)) : Prop where
  at_ : ∀ e ∈ L, ∃ i x, e.1 = i + 1 ∧ bs[i]? = some x ∧ BodyAt w e.2 x
  own : ∀ e ∈ L, F e.2 ∧ ∀ k, bufOf w e.2 = some k → F k
  sep : ∀ e ∈ L, ∀ f ∈ L, e.2 = f.2 → e = f
  buf : ∀ e ∈ L, ∀ f ∈ L, e.2 ≠ f.2 → ∀ k, bufOf w e.2 = some k → bufOf w f.2 ≠ some k
theorem Bods.lt {F : Nat → Prop} {w : World} {bs : List Bd} {L : List (Nat × Nat)} (h : Bods F w bs L) {e : Nat × Nat} (he : e ∈ L) : e.2 < w.heap.size ∧ ∀ k, bufOf w e.2 = some k → k < w.heap.size := by
  obtain ⟨i, x, _, _, hb⟩ := h.at_ e he
  refine ⟨?_, fun k hk => ?_⟩
  · obtain ⟨cs, hh⟩ := hb.blk; exact (Array.getElem?_eq_some_iff.1 hh).1
  · obtain ⟨cs, fz, hh⟩ := hb.buf hk; exact (Array.getElem?_eq_some_iff.1 hh).1
theorem Bods.keep {F G : Nat → Prop} {w w' : World} {bs : List Bd} {L : List (Nat × Nat)} (h : Bods F w bs L) (hk : ∀ e ∈ L, ∀ k, (k = e.2 ∨ bufOf w e.2 = some k) → w'.heap[k]? = w.heap[k]?) (hG : ∀ k, F k → G k) : Bods G w' bs L := by
  have hb : ∀ e ∈ L, bufOf w' e.2 = bufOf w e.2 := fun e he => bufOf_keep (hk e he e.2 (.inl rfl))
  refine ⟨fun e he => ?_, fun e he => ?_, h.sep, fun e he f hf hne k h1 => ?_⟩
  · obtain ⟨i, x, h1, h2, h3⟩ := h.at_ e he
    exact ⟨i, x, h1, h2, h3.keep (hk e he _ (.inl rfl)) fun k hk' => hk e he k (.inr hk')⟩
  · rw [hb e he]; exact ⟨hG _ (h.own e he).1, fun k hk' => hG _ ((h.own e he).2 k hk')⟩
  · rw [hb e he] at h1; rw [hb f hf]; exact h.buf e he f hf hne k h1
theorem Bods.sub {F : Nat → Prop} {w : World} {bs : List Bd} {L L' : List (Nat × Nat)} (h : Bods F w bs L) (hs : ∀ e ∈ L', e ∈ L) : Bods F w bs L' :=
  ⟨fun e he => h.at_ e (hs e he), fun e he => h.own e (hs e he), fun e he f hf => h.sep e (hs e he) f (hs f hf), fun e he f hf => h.buf e (hs e he) f (hs f hf)⟩
/-- The four maps: none has been made (but for 'there', behind a crash), or all have. -/
def Maps4 (F : Nat → Prop) (w : World) (vd vs vt vk : Value) (now d0 : Dr) (T K : List (Nat × Nat)) : Prop :=
  (vd = .map none ∧ vs = .map none ∧ vk = .map none ∧ now = [] ∧ d0 = [] ∧ T = [] ∧ K = [] ∧ (vt = .map none ∨ ∃ bt, vt = .map (some bt) ∧ F bt ∧ MapAt (.int .i64) w bt [])) ∨
  ∃ bd bs bt bk, vd = .map (some bd) ∧ vs = .map (some bs) ∧ vt = .map (some bt) ∧ vk = .map (some bk) ∧ F bd ∧ F bs ∧ F bt ∧ F bk ∧ bd ≠ bs ∧ bd ≠ bt ∧ bd ≠ bk ∧ bs ≠ bt ∧ bs ≠ bk ∧ bt ≠ bk ∧
    MapAt .string w bd (dv now) ∧ MapAt .string w bs (dv d0) ∧ MapAt (.int .i64) w bt (bv T) ∧ MapAt (.int .i64) w bk (bv K)
def diskV (cap made : Nat) (vd vs vt vk vp : Value) : Array Value := #[.int .i64 cap, .int .i64 made, vd, vs, vt, vk, vp]
def chgV (cs : List Chg) : List Value := cs.flatMap Chg.vs
/-- The program's volume at block p, its memory in blocks of F. -/
def Raw (F : Nat → Prop) (p : Nat) (cap made : Nat) (now d0 : Dr) (cs : List Chg) (T K : List (Nat × Nat)) (bs : List Bd) (w : World) : Prop :=
  ∃ vd vs vt vk vp, w.heap[p]? = some (.cells (diskV cap made vd vs vt vk vp) 103 (0, 0)) ∧ F p ∧ Maps4 F w vd vs vt vk now d0 T K ∧
    w.ownsRow 0 137 3 vp cs.length (chgV cs) ∧ (∀ k, vp.ownBlock = some k → F k) ∧ Bods F w bs (T ++ K) ∧ (vd = .map none → cs = [])
/-- What holds of the lists. -/
structure Inv (st : St) (d0 : Dr) (cs : List Chg) (T K : List (Nat × Nat)) : Prop where
  dirs : st.dirs = chain d0 cs
  dw : DW st
  num : (T.map (·.1)).Perm (st.now.map (·.2))
  all : ∀ d ∈ st.dirs, ∀ e ∈ d, e.2 ∈ T.map (·.1) ∨ e.2 ∈ K.map (·.1)
  apart : ∀ e ∈ K, ∀ f ∈ T, e.1 ≠ f.1
def PSx (F : Nat → Prop) (p : Nat) (st : St) (w : World) : Prop :=
  ∃ d0 cs T K, Raw F p st.cap st.bodies.length st.now d0 cs T K st.bodies w ∧ Inv st d0 cs T K
theorem Maps4.keep {F G : Nat → Prop} {w w' : World} {vd vs vt vk : Value} {now d0 : Dr} {T K : List (Nat × Nat)} (h : Maps4 F w vd vs vt vk now d0 T K) (hk : ∀ v ∈ [vd, vs, vt, vk], ∀ b, v = .map (some b) → w'.heap[b]? = w.heap[b]?) (hG : ∀ k, F k → G k) : Maps4 G w' vd vs vt vk now d0 T K := by
  rcases h with ⟨h1, h2, h3, h4, h5, h6, h7, h8⟩ | ⟨bd, bs, bt, bk, rfl, rfl, rfl, rfl, f1, f2, f3, f4, n1, n2, n3, n4, n5, n6, m1, m2, m3, m4⟩
  · refine .inl ⟨h1, h2, h3, h4, h5, h6, h7, ?_⟩
    rcases h8 with h8 | ⟨bt, rfl, hF, hm⟩
    · exact .inl h8
    · exact .inr ⟨bt, rfl, hG _ hF, hm.keep (hk _ (by simp) _ rfl)⟩
  · exact .inr ⟨bd, bs, bt, bk, rfl, rfl, rfl, rfl, hG _ f1, hG _ f2, hG _ f3, hG _ f4, n1, n2, n3, n4, n5, n6, m1.keep (hk _ (by simp) _ rfl), m2.keep (hk _ (by simp) _ rfl), m3.keep (hk _ (by simp) _ rfl), m4.keep (hk _ (by simp) _ rfl)⟩
theorem Maps4.inF {F : Nat → Prop} {w : World} {vd vs vt vk : Value} {now d0 : Dr} {T K : List (Nat × Nat)} (h : Maps4 F w vd vs vt vk now d0 T K) {v : Value} (hv : v ∈ [vd, vs, vt, vk]) {b : Nat} (hb : v = .map (some b)) : F b ∧ b < w.heap.size := by
  subst hb
  rcases h with ⟨h1, h2, h3, h4, h5, h6, h7, h8⟩ | ⟨bd, bs, bt, bk, rfl, rfl, rfl, rfl, f1, f2, f3, f4, n1, n2, n3, n4, n5, n6, m1, m2, m3, m4⟩
  · subst h1 h2 h3
    simp at hv
    subst hv
    rcases h8 with h8 | ⟨bt, he, hF, hm⟩
    · cases h8
    · cases he; exact ⟨hF, hm.lt⟩
  · simp at hv
    rcases hv with rfl | rfl | rfl | rfl
    · exact ⟨f1, m1.lt⟩
    · exact ⟨f2, m2.lt⟩
    · exact ⟨f3, m3.lt⟩
    · exact ⟨f4, m4.lt⟩
theorem Maps4.ne_cells {F : Nat → Prop} {w : World} {vd vs vt vk : Value} {now d0 : Dr} {T K : List (Nat × Nat)} (h : Maps4 F w vd vs vt vk now d0 T K) {v : Value} (hv : v ∈ [vd, vs, vt, vk]) {b : Nat} (hb : v = .map (some b)) {k : Nat} {c : Array Value} {t : TypeId} {fr : Nat × Nat} (hk : w.heap[k]? = some (.cells c t fr)) : b ≠ k := by
  subst hb
  rcases h with ⟨h1, h2, h3, h4, h5, h6, h7, h8⟩ | ⟨bd, bs, bt, bk, rfl, rfl, rfl, rfl, f1, f2, f3, f4, n1, n2, n3, n4, n5, n6, m1, m2, m3, m4⟩
  · subst h1 h2 h3
    simp at hv
    subst hv
    rcases h8 with h8 | ⟨bt, he, hF, hm⟩
    · cases h8
    · cases he; exact hm.ne_cells hk
  · simp at hv
    rcases hv with rfl | rfl | rfl | rfl
    · exact m1.ne_cells hk
    · exact m2.ne_cells hk
    · exact m3.ne_cells hk
    · exact m4.ne_cells hk
theorem Raw.keep {F G : Nat → Prop} {p cap made : Nat} {now d0 : Dr} {cs : List Chg} {T K : List (Nat × Nat)} {bs : List Bd} {w w' : World} (h : Raw F p cap made now d0 cs T K bs w) (hk : ∀ k, F k → k < w.heap.size → w'.heap[k]? = w.heap[k]?) (hG : ∀ k, F k → G k) : Raw G p cap made now d0 cs T K bs w' := by
  obtain ⟨vd, vs, vt, vk, vp, hp, hF, hm, ho, hoF, hb, hn⟩ := h
  have hpl : p < w.heap.size := (Array.getElem?_eq_some_iff.1 hp).1
  refine ⟨vd, vs, vt, vk, vp, (hk p hF hpl).trans hp, hG _ hF, hm.keep (fun v hv b hb' => ?_) hG, own_keep ho fun k hk' => hk k (hoF k hk') ?_, fun k hk' => hG _ (hoF k hk'), hb.keep (fun e he k hk' => ?_) hG, hn⟩
  · obtain ⟨h1, h2⟩ := hm.inF hv hb'; exact hk b h1 h2
  · obtain ⟨cur, hh⟩ := own_typed ho hk'; exact (Array.getElem?_eq_some_iff.1 hh).1
  · rcases hk' with rfl | hk'
    · exact hk _ (hb.own e he).1 (hb.lt he).1
    · exact hk k ((hb.own e he).2 k hk') ((hb.lt he).2 k hk')
theorem psx_same {F : Nat → Prop} {p : Nat} {st : St} {w w' : World} (h : PSx F p st w) (hk : ∀ k, F k → k < w.heap.size → w'.heap[k]? = w.heap[k]?) : PSx F p st w' := by
  obtain ⟨d0, cs, T, K, hr, hi⟩ := h
  exact ⟨d0, cs, T, K, hr.keep hk fun _ h => h, hi⟩
theorem psx_mono {F G : Nat → Prop} {p : Nat} {st : St} {w : World} (h : PSx F p st w) (hG : ∀ k, F k → G k) : PSx G p st w := by
  obtain ⟨d0, cs, T, K, hr, hi⟩ := h
  exact ⟨d0, cs, T, K, hr.keep (fun _ _ _ => rfl) hG, hi⟩
end Go.Proofs.YtjbphheojfclcaaGreat

-- strings.Builder inside a body: Len, WriteString, String, Reset.
namespace Go.Proofs.YtjbphheojfclcaaGreat
open Go.RowKit
set_option linter.unusedVariables false
theorem infoBl : (Tryz.prog.info? 145).map (·.size) = some 2 := by kernel_rfl
theorem liesBl : liesAt Tryz.prog Tryz.prog.depth 147 (7 / Tryz.prog.cellsOf 147) 4 145 1 = true := by kernel_rfl
theorem info5y : (Tryz.prog.info? 5).map (fun i => (i.zero, i.size, i.bytes)) = some (some (.int .u8 0), 1, 1) := by kernel_rfl
theorem cells5 : Tryz.prog.cellsOf 5 = 1 := by kernel_rfl
theorem body_cell {w : World} {b : Nat} {x : Bd} {ad v : Value} (h : w.heap[b]? = some (.cells (bodyV x ad v) 147 (0, 0))) : w.cell? ⟨b, 4, none⟩ = some ad ∧ w.cell? ⟨b, 5, none⟩ = some v ∧ w.cell? ⟨b, 6, none⟩ = some (.int .i64 x.safe) := by
  refine ⟨?_, ?_, ?_⟩ <;> (rw [Lib.cell_of_heap h]; rfl)
theorem blk_lt {w : World} {b : Nat} {o : Obj} (h : w.heap[b]? = some o) : b < w.heap.size := (Array.getElem?_eq_some_iff.1 h).1
/-- What a call on one body may turn: the body's block, the block of its bytes, new blocks. -/
structure Only (b : Nat) (w w' : World) : Prop where
  os : w'.os = w.os
  tape : w'.tape = w.tape
  output : w'.output = w.output
  size : w.heap.size ≤ w'.heap.size
  block : ∀ k, k < w.heap.size → k ≠ b → bufOf w b ≠ some k → w'.heap[k]? = w.heap[k]?
  buf : ∀ k, bufOf w' b = some k → bufOf w b = some k ∨ w.heap.size ≤ k
theorem Only.refl (b : Nat) (w : World) : Only b w w := ⟨rfl, rfl, rfl, Nat.le_refl _, fun _ _ _ _ => rfl, fun _ h => .inl h⟩
theorem Only.trans {b : Nat} {w w1 w2 : World} (h : Only b w w1) (k : Only b w1 w2) : Only b w w2 :=
  ⟨k.os.trans h.os, k.tape.trans h.tape, k.output.trans h.output, Nat.le_trans h.size k.size, fun i hi hb hbuf => (k.block i (Nat.lt_of_lt_of_le hi h.size) hb (fun e => by
      rcases h.buf i e with e' | e'
      · exact hbuf e'
      · omega)).trans (h.block i hi hb hbuf), fun i hi => by
    rcases k.buf i hi with e | e
    · exact h.buf i e
    · exact .inr (Nat.le_trans h.size e)⟩
theorem Only.drew {b : Nat} {w w' : World} (h : Only b w w') : Only b w w'.drew := ⟨h.os, h.tape, h.output, h.size, h.block, h.buf⟩
/-- A store into the body's own block. -/
theorem Only.set {b k : Nat} {w w' : World} (h : Only b w w') (v : Value) (hv : ∀ i, bufOf (w'.setCell ⟨b, k, none⟩ v) b = some i → bufOf w b = some i ∨ w.heap.size ≤ i) : Only b w (w'.setCell ⟨b, k, none⟩ v) :=
  ⟨h.os, h.tape, h.output, by have := h.size; simpa [World.setCell] using this, fun i hi hb hbuf => (Below.heap_setCell _ _ _ _ hb).trans (h.block i hi hb hbuf), hv⟩
theorem Only.kp {F : Nat → Prop} {b : Nat} {w w' : World} (h : Only b w w') (hb : F b) (hbuf : ∀ k, bufOf w b = some k → F k) : Kp F w w' :=
  ⟨h.os, h.tape, h.output, h.size, fun k hk hF => h.block k hk (fun e => hF (e ▸ hb)) (fun e => hF (hbuf k e))⟩
theorem set_body {w : World} {b : Nat} {x : Bd} {ad v : Value} (h : w.heap[b]? = some (.cells (bodyV x ad v) 147 (0, 0))) : 
    (∀ u, (w.setCell ⟨b, 4, none⟩ u).heap[b]? = some (.cells (bodyV x u v) 147 (0, 0))) ∧ (∀ u, (w.setCell ⟨b, 5, none⟩ u).heap[b]? = some (.cells (bodyV x ad u) 147 (0, 0))) ∧ (∀ n : Nat, (w.setCell ⟨b, 6, none⟩ (.int .i64 n)).heap[b]? = some (.cells (bodyV { x with safe := n } ad v) 147 (0, 0))) :=
  ⟨fun u => blk_set h u, fun u => blk_set h u, fun u => blk_set h _⟩
theorem body_sh {w : World} {b : Nat} {x : Bd} {ad v : Value} (h : w.heap[b]? = some (.cells (bodyV x ad v) 147 (0, 0))) : w.shape? b = some (147, 7) := by
  simp [World.shape?, h, bodyV]
theorem buf_ne {w : World} {b : Nat} {x : Bd} {ad v : Value} {n : Nat} {xs : List Value} (h : w.heap[b]? = some (.cells (bodyV x ad v) 147 (0, 0))) (ho : w.ownsRowF 0 5 1 v n xs) : v.ownBlock ≠ some b := Lib.ownBlock_neF ho h (by decide)
set_option maxHeartbeats 1000000 in
theorem blen_c (b : Nat) (x : Bd) (w : World) (h : BodyAt w b x) :
    Calls Tryz.prog 69 #[.pointer (some ⟨b, 4, none⟩)] w fun e w' => e = .returned (.int .i64 x.data.size) ∧ w' = w := by
  obtain ⟨ad, v, hh, had, hown⟩ := h
  obtain ⟨ao, c, rfl⟩ := ownF_shape hown
  obtain ⟨c4, c5, c6⟩ := body_cell hh
  clear hown had hh
  go_enter Tryz.func69, Tryz.ntmps69
  go_wp2
  go_ret
  exact ⟨rfl, rfl⟩
set_option maxHeartbeats 1000000 in
set_option maxRecDepth 100000 in
theorem copy_used (b : Nat) (w : World) (h0 : w.cell? ⟨b, 4, none⟩ = some (.pointer (some ⟨b, 4, none⟩))) :
    Calls Tryz.prog 78 #[.pointer (some ⟨b, 4, none⟩)] w fun e w' => e = .returned (.tuple #[]) ∧ w' = w := by
  obtain ⟨j, hj, _⟩ := Option.map_eq_some_iff.1 infoBl
  go_enter Tryz.func78, Tryz.ntmps78
  go_wp2
  rw [Lib.run_neq_ptr_same w _ Tryz.underlying142 hj]
  go_wp2
  go_end0
  exact ⟨rfl, rfl⟩
set_option maxHeartbeats 1000000 in
set_option maxRecDepth 100000 in
theorem copy_fresh (b : Nat) (w : World) (h0 : w.cell? ⟨b, 4, none⟩ = some (.pointer none)) (hsh : w.shape? b = some (147, 7)) (hfz : w.frozen? ⟨b, 4, none⟩ = false) :
    Calls Tryz.prog 78 #[.pointer (some ⟨b, 4, none⟩)] w fun e w' => e = .returned (.tuple #[]) ∧ w' = w.setCell ⟨b, 4, none⟩ (.pointer (some ⟨b, 4, none⟩)) := by
  obtain ⟨j, hj, hjs⟩ := Option.map_eq_some_iff.1 infoBl
  go_enter Tryz.func78, Tryz.ntmps78
  go_wp2
  rw [Lib.run_to_unsafe w ⟨b, 4, none⟩ Tryz.underlying142 Tryz.underlying169 hj (by rw [hjs]; decide) hsh (show 4 < 7 by decide)]
  simp only [Result.andThen]
  rw [Oper.upon_value]
  go_wp2
  rw [run_callFunc_extern Tryz.func91 (by kernel_rfl) (by kernel_rfl) (by kernel_rfl) (e := Extern.AbiNoEscape.same) (by kernel_rfl), Lib.run_noEscape]
  simp only [Result.andThen]
  rw [Oper.upon_value]
  go_wp2
  rw [Lib.run_from_unsafe w ⟨b, 4, none⟩ Tryz.underlying169 Tryz.underlying142 hj hsh liesBl]
  simp only [Result.andThen]
  rw [Oper.upon_value]
  go_wp2
  go_end0
  exact ⟨rfl, rfl⟩
theorem copy_c (b : Nat) (x : Bd) (w : World) (h : BodyAt w b x) :
    Calls Tryz.prog 78 #[.pointer (some ⟨b, 4, none⟩)] w fun e w' => e = .returned (.tuple #[]) ∧ Only b w w' ∧ ∃ v, w'.heap[b]? = some (.cells (bodyV x (.pointer (some ⟨b, 4, none⟩)) v) 147 (0, 0)) ∧ bufOf w b = v.ownBlock ∧ w'.ownsRowF 0 5 1 v x.data.size (Lib.byteCells x.data.data.toList) := by
  obtain ⟨ad, v, hh, had, hown⟩ := h
  rcases had with rfl | rfl
  · refine (copy_fresh b w (body_cell hh).1 (body_sh hh) (Lib.frozen_of_heap hh _)).mono ?_
    rintro e w' ⟨rfl, rfl⟩
    have h1 := (set_body hh).1 (.pointer (some ⟨b, 4, none⟩))
    refine ⟨rfl, (Only.refl b w).set _ (fun i hi => .inl ?_), v, h1, bufOf_eq hh, ownF_keep hown fun k hk => Below.heap_setCell _ _ _ _ (fun e => buf_ne hh hown (by rw [hk, e]))⟩
    rw [bufOf_eq h1] at hi; rw [bufOf_eq hh]; exact hi
  · refine (copy_used b w (body_cell hh).1).mono ?_
    rintro e w' ⟨rfl, rfl⟩
    exact ⟨rfl, Only.refl _ _, v, hh, bufOf_eq hh, hown⟩
theorem append_where {P : Program} (w : World) (t u ty e : TypeId) (i : TypeInfo) (ht : P.underlying t = some (.slice e)) (hu : P.underlying u = some .string) (hi : P.info? e = some i) (hz : i.zero = some (.int .u8 0)) (hsize : i.size = 1) (hby : i.bytes = 1)
    (v : Value) (n : Nat) (xs : List Value) (hown : w.ownsRowF 0 e 1 v n xs) (s : ByteArray) (h63 : n + s.size ≤ maxLen) (hbytes : n + s.size ≤ 140737488355328) (v' : Value) (w' : World) (hrun : (Builtin.append_ #[t, u] ty #[v, .string s]).run P w = .ok v' w') :
    ∀ k, v'.ownBlock = some k → v.ownBlock = some k ∨ w.heap.size ≤ k := by
  intro k hk
  rcases hown.2 with ⟨rfl, rfl⟩ | ⟨g, cap, cur, fz, rfl, hbg, hg, hfz, hnc, hcm, hcs, htake⟩
  · obtain ⟨v2, w2, h1, h2, h3, h4⟩ := Lib.run_append_own_string (P := P) w w.heap.size t u ty e i ht hu hi hz hsize hby (.slice none 0 0) 0 xs ⟨hown.1, .inl ⟨rfl, rfl⟩⟩ s h63 hbytes (Nat.le_refl _)
    rw [hrun] at h1
    cases h1
    exact .inr (h2.lt k hk).1
  · have hxl : xs.length = n := by simpa using hown.1
    have hsmall : n + s.size ≤ 9223372036854775807 := by simp only [maxLen] at h63; omega
    by_cases hroom : n + s.size ≤ cap
    · have hr := Lib.run_append_room_stringF (P := P) w t u ty e i ht hu hi hsize g n cap cur fz hg (by simpa using hfz) s hroom (by omega)
      rw [hrun] at hr
      cases hr
      exact .inl hk
    · have holds : ∀ j u, xs[j]? = some u → w.cell? ((⟨g, 0, none⟩ : Addr).add j) = some u := hown.cells (g := g) rfl
      have hr := Lib.run_append_grow_string (P := P) w t u ty e i (.int .u8 0) ht hu hi hz ⟨g, 0, none⟩ n cap xs (by rw [hsize]; simpa using hxl) holds s (by omega) (by omega) (by rw [hby]; exact growslice_fits (by omega) (by omega))
      rw [hrun] at hr
      cases hr
      simp only [Value.ownBlock, Option.some.injEq] at hk
      exact .inr (by omega)
theorem wp_append_str {P : Program} (w : World) {ops : Array Oper} {rest : List Oper} {o : Oper} {a : Act} {Q : Exit → Act → World → Prop} (hgd : o.guard = none) (sl x : Operand) (t u : TypeId)
    (ho : o.op = .call { callee := .builtin .append, args := #[sl, x], argTypes := #[t, u] })
    (e : TypeId) (i : TypeInfo) (ht : P.underlying t = some (.slice e)) (hu : P.underlying u = some .string) (hi : P.info? e = some i) (hz : i.zero = some (.int .u8 0)) (hsize : i.size = 1) (hby : i.bytes = 1)
    (v : Value) (n : Nat) (xs : List Value) (hs : a.eval sl = v) (hown : w.ownsRowF 0 e 1 v n xs) (s : ByteArray) (hx : a.eval x = .string s) (h63 : n + s.size ≤ maxLen) (hbytes : n + s.size ≤ 140737488355328)
    (h : ∀ v' w', w'.ownsRowF 0 e 1 v' (n + s.size) (xs ++ Lib.strCells s) → w.grownBy w' v.ownBlock → (∀ k, v'.ownBlock = some k → v.ownBlock = some k ∨ w.heap.size ≤ k) → wpList P ops Q rest (a.put o.dst v') w') : wpList P ops Q (o :: rest) a w := by
  refine wpList_plain hgd fun K hK => ?_
  obtain ⟨v', w', hr, h2, h3, h4⟩ := Lib.run_append_own_stringF (P := P) w 0 t u o.type e i ht hu hi hz hsize hby v n xs hown s h63 hbytes (Nat.zero_le _)
  have h5 := append_where w t u o.type e i ht hu hi hz hsize hby v n xs hown s h63 hbytes v' w' hr
  unfold Oper.wp execOp
  simp only [ho, resolve, invoke, builtin, Sem.run_bind, Sem.run_pure, Result.andThen_ok, List.map_toArray, List.map_cons, List.map_nil, hs, hx, hr]
  exact hK _ _ (h v' w' h2 h3 h5)
set_option maxHeartbeats 2000000 in
set_option maxRecDepth 100000 in
theorem bwrite_c (b : Nat) (x : Bd) (s : ByteArray) (w : World) (h : BodyAt w b x) (hlen : x.data.size + s.size ≤ 140737488355328) :
    Calls Tryz.prog 67 #[.pointer (some ⟨b, 4, none⟩), .string s] w fun e w' => e = .returned (.tuple #[.int .i64 s.size, .nilIface]) ∧ BodyAt w' b { x with data := x.data ++ s } ∧ Only b w w' := by
  obtain ⟨i0, hi, hz0, hz1, hz2⟩ := info_parts info5y
  have HX : Hid (BodyAt w b x) := h
  clear h
  go_enter Tryz.func67, Tryz.ntmps67
  go_wp2_with (go_at_call 78; refine (copy_c b x _ HX.out).mono ?_)
  rintro e w1 ⟨rfl, ho1, v, hbk, hbuf, hown⟩
  have HO1 : Hid (Only b w w1) := ho1
  have HBF : Hid (bufOf w b = v.ownBlock) := hbuf
  have HBK : Hid (w1.heap[b]? = some (.cells (bodyV x (.pointer (some ⟨b, 4, none⟩)) v) 147 (0, 0))) := hbk
  obtain ⟨c4, c5, c6⟩ := body_cell hbk
  clear ho1 hbuf hbk c6 HX
  go_wp2_with (at_builtin; refine wp_append_str _ rfl _ _ 143 9 rfl 5 i0 Tryz.underlying143 Tryz.underlying9 hi hz0 hz1 hz2 _ _ _ rfl hown s rfl ?c3 ?c4 ?_)
  case c3 => unfold maxLen; omega
  case c4 => omega
  intro v' w2 hown' hgrow hwhere
  have hne := buf_ne HBK.out hown
  have hlt := blk_lt HBK.out
  have hb2 : w2.heap[b]? = some (.cells (bodyV x (.pointer (some ⟨b, 4, none⟩)) v) 147 (0, 0)) := by
    rw [hgrow.block b hlt (fun e => hne e.symm)]; exact HBK.out
  have HB2 : Hid (w2.heap[b]? = some (.cells (bodyV x (.pointer (some ⟨b, 4, none⟩)) v) 147 (0, 0))) := hb2
  obtain ⟨d4, d5, d6⟩ := body_cell hb2
  have f1 : w2.frozen? ⟨b, 5, none⟩ = false := Lib.frozen_of_heap hb2 5
  obtain ⟨ao, cap, rfl⟩ := ownF_shape hown'
  have hb3 := (set_body hb2).2.1 (.slice ao (x.data.size + s.size) cap)
  have hne' : (Value.slice ao (x.data.size + s.size) cap).ownBlock ≠ some b := Lib.ownBlock_neF hown' hb2 (by decide)
  have HR : Hid (BodyAt (w2.setCell ⟨b, 5, none⟩ (.slice ao (x.data.size + s.size) cap)) b { x with data := x.data ++ s } ∧ Only b w (w2.setCell ⟨b, 5, none⟩ (.slice ao (x.data.size + s.size) cap))) := by
    refine ⟨⟨_, _, hb3, .inr rfl, ?_⟩, HO1.out.trans ?_⟩
    · have e1 : (x.data ++ s).size = x.data.size + s.size := by simp
      have e2 : Lib.byteCells (x.data ++ s).data.toList = Lib.byteCells x.data.data.toList ++ Lib.strCells s := by rw [Lib.strCells_eq, ← Lib.byteCells_append]; simp
      show World.ownsRowF _ 0 5 1 _ (x.data ++ s).size (Lib.byteCells (x.data ++ s).data.toList)
      rw [e1, e2]
      exact ownF_keep hown' fun k hk => Below.heap_setCell _ _ _ _ (fun e => hne' (by rw [hk, e]))
    · have hbw1 : bufOf w1 b = v.ownBlock := bufOf_eq HBK.out
      have ho2 : Only b w1 w2 := ⟨hgrow.os, hgrow.tape, hgrow.output, hgrow.size, fun k hk hb hbuf => hgrow.block k hk (fun e => hbuf (by rw [hbw1, e])), fun k hk => .inl (by rw [bufOf_eq hb2] at hk; rw [hbw1]; exact hk)⟩
      refine ho2.set _ fun i hi => ?_
      rw [bufOf_eq hb3] at hi
      rw [hbw1]
      exact hwhere i hi
  clear hgrow hown' hb2 hb3 hne hne' hown hwhere
  go_wp2
  go_ret2
  exact ⟨rfl, HR.out⟩
set_option maxHeartbeats 2000000 in
theorem breset_c (b : Nat) (x : Bd) (w : World) (h : BodyAt w b x) :
    Calls Tryz.prog 66 #[.pointer (some ⟨b, 4, none⟩)] w fun e w' => e = .returned (.tuple #[]) ∧ BodyAt w' b { x with data := ⟨#[]⟩ } ∧ Only b w w' := by
  obtain ⟨ad, v, hh, had, hown⟩ := h
  have h1 := (set_body hh).1 (.pointer none)
  have h2 := (set_body h1).2.1 (.slice none 0 0)
  have HR : Hid (BodyAt ((w.setCell ⟨b, 4, none⟩ (.pointer none)).setCell ⟨b, 5, none⟩ (.slice none 0 0)) b { x with data := ⟨#[]⟩ } ∧ Only b w ((w.setCell ⟨b, 4, none⟩ (.pointer none)).setCell ⟨b, 5, none⟩ (.slice none 0 0))) := by
    refine ⟨⟨_, _, h2, .inl rfl, World.ownsRowF_nil _ _ _ _⟩, ((Only.refl b w).set _ fun i hi => .inl ?_).set _ fun i hi => ?_⟩
    · rw [bufOf_eq h1] at hi; rw [bufOf_eq hh]; exact hi
    · rw [bufOf_eq h2] at hi; cases hi
  obtain ⟨c4, c5, c6⟩ := body_cell hh
  obtain ⟨d4, d5, d6⟩ := body_cell h1
  have f4 : w.frozen? ⟨b, 4, none⟩ = false := Lib.frozen_of_heap hh 4
  have f5 : (w.setCell ⟨b, 4, none⟩ (.pointer none)).frozen? ⟨b, 5, none⟩ = false := Lib.frozen_of_heap h1 5
  clear hh h1 h2 had hown c6 d6
  go_enter Tryz.func66, Tryz.ntmps66
  go_wp2
  go_end0
  exact ⟨rfl, HR.out⟩
theorem freeze_other (w : World) (g n k : Nat) (h : k ≠ g) : (w.freeze ⟨g, 0, none⟩ n).heap[k]? = w.heap[k]? := by
  unfold World.freeze
  split
  · rfl
  · simp only [Array.getElem?_modify]
    rw [if_neg (fun e => h e.symm)]
theorem freeze_size (w : World) (g n : Nat) : (w.freeze ⟨g, 0, none⟩ n).heap.size = w.heap.size ∧ (w.freeze ⟨g, 0, none⟩ n).os = w.os ∧ (w.freeze ⟨g, 0, none⟩ n).tape = w.tape ∧ (w.freeze ⟨g, 0, none⟩ n).output = w.output := by
  unfold World.freeze
  split
  · exact ⟨rfl, rfl, rfl, rfl⟩
  · exact ⟨by simp, rfl, rfl, rfl⟩
theorem froze_own {w : World} {g cap n : Nat} {xs : List Value} (h : w.ownsRowF 0 5 1 (.slice (some ⟨g, 0, none⟩) n cap) n xs) : (w.freeze ⟨g, 0, none⟩ n).ownsRowF 0 5 1 (.slice (some ⟨g, 0, none⟩) n cap) n xs := by
  unfold World.freeze
  split
  · exact h
  · rename_i hn0
    refine ⟨h.1, ?_⟩
    rcases h.2 with ⟨hv, _⟩ | ⟨g', cap', cur, fz, hv, hbg, hg, hfz, rest⟩
    · cases hv
    · injection hv with ha _ hcap
      injection ha with ha
      injection ha with hgg _ _
      subst hgg
      subst hcap
      obtain ⟨lo, hi⟩ := fz
      refine .inr ⟨g, cap, cur, (if lo == hi then (0, 0 + n) else (min lo 0, max hi (0 + n))), rfl, hbg, ?_, ?_, rest⟩
      · simp [Array.getElem?_modify, hg]
      · simp only at hfz
        split <;> simp <;> omega
theorem bstr_end {w w' : World} {b : Nat} {x : Bd} {ad v : Value} (hh : w.heap[b]? = some (.cells (bodyV x ad v) 147 (0, 0))) (had : ad = .pointer none ∨ ad = .pointer (some ⟨b, 4, none⟩)) (hown : w'.ownsRowF 0 5 1 v x.data.size (Lib.byteCells x.data.data.toList)) (hb : w'.heap[b]? = w.heap[b]?) (hos : w'.os = w.os ∧ w'.tape = w.tape ∧ w'.output = w.output ∧ w.heap.size ≤ w'.heap.size) (hk : ∀ k, k < w.heap.size → v.ownBlock ≠ some k → w'.heap[k]? = w.heap[k]?) : BodyAt w' b x ∧ Only b w w' ∧ w'.heap[b]? = w.heap[b]? :=
  ⟨⟨ad, v, hb.trans hh, had, hown⟩, ⟨hos.1, hos.2.1, hos.2.2.1, hos.2.2.2, fun k hk' _ hbuf => hk k hk' (fun e => hbuf (by rw [bufOf_eq hh, e])), fun k hk' => .inl (by rw [bufOf_keep hb] at hk'; exact hk')⟩, hb⟩
set_option maxHeartbeats 4000000 in
set_option maxRecDepth 100000 in
theorem bstr_k (b : Nat) (x : Bd) (w : World) (h : BodyAt w b x) :
    Calls Tryz.prog 65 #[.pointer (some ⟨b, 4, none⟩)] w fun e w' => e = .returned (.string x.data) ∧ BodyAt w' b x ∧ Only b w w' ∧ w'.heap[b]? = w.heap[b]? := by
  obtain ⟨ad, v, hh, had, hown⟩ := h
  have hne := buf_ne hh hown
  have hlt := blk_lt hh
  have hsz : x.data.data.toList.length = x.data.size := by rw [← Lib.size_eq]
  by_cases h0 : x.data.size = 0
  · have hnil : x.data = ⟨#[]⟩ := by
      have : x.data.data.size = 0 := h0
      have e : x.data.data = #[] := Array.eq_empty_of_size_eq_zero this
      cases hx : x.data with | mk d => rw [hx] at e; simp at e; rw [e]
    rw [hnil]
    have hUS : ∀ (W : World) (q : Option Addr), (Builtin.unsafeString_ #[156, 3] 9 #[.pointer q, .int .i64 0]).run Tryz.prog W = .ok (.string .empty) W := fun W q => Lib.run_unsafeString_none W _ _ _ q
    rcases hown.2 with ⟨rfl, _⟩ | ⟨g, cap, cur, fz, rfl, hbg, hg, r⟩
    · have c1 : w.drew.cell? ⟨b, 5, none⟩ = some (.slice none 0 0) := (body_cell (w := w.drew) hh).2.1
      have hSD : (Builtin.unsafeSliceData_ #[143] 156 #[.slice none 0 0]).run Tryz.prog w.drew = .ok (.pointer none) w.drew := rfl
      have HR : Hid (BodyAt w.drew b x ∧ Only b w w.drew ∧ w.drew.heap[b]? = w.heap[b]?) := bstr_end hh had (w' := w.drew) hown rfl ⟨rfl, rfl, rfl, Nat.le_refl _⟩ fun _ _ _ => rfl
      clear hown hh had hne hnil hsz h0
      go_enter Tryz.func65, Tryz.ntmps65
      go_wp2
      go_region
      all_goals (go_wp2; go_ret; exact ⟨rfl, HR.out⟩)
    · rw [h0] at hown hh
      by_cases hc0 : cap = 0
      · subst hc0
        have c1 : w.drew.cell? ⟨b, 5, none⟩ = some (.slice (some ⟨g, 0, none⟩) 0 0) := (body_cell (w := w.drew) hh).2.1
        have hSD : (Builtin.unsafeSliceData_ #[143] 156 #[.slice (some ⟨g, 0, none⟩) 0 0]).run Tryz.prog w.drew = .ok (.pointer (some ⟨w.drew.heap.size, 0, none⟩)) (w.drew.alloc (.view ⟨g, 0, none⟩ 5)) :=
          Lib.run_unsafeSliceData_zero w.drew _ _ 5 Tryz.underlying156 ⟨g, 0, none⟩ 0 (5, cur.size) (by have hg' : w.drew.heap[g]? = some (.cells cur 5 fz) := hg; simp [World.shape?, hg'])
        have c2 : (w.drew.alloc (.view ⟨g, 0, none⟩ 5)).cell? ⟨b, 5, none⟩ = some (.slice (some ⟨g, 0, none⟩) 0 0) := by
          have : (w.drew.alloc (.view ⟨g, 0, none⟩ 5)).heap[b]? = _ := (Lib.alloc_old w.drew _ b hlt).trans hh
          rw [Lib.cell_of_heap this]; rfl
        have c3 : (w.alloc (.view ⟨g, 0, none⟩ 5)).drew.cell? ⟨b, 5, none⟩ = some (.slice (some ⟨g, 0, none⟩) 0 0) := c2
        have c0 : w.cell? ⟨b, 5, none⟩ = some (.slice (some ⟨g, 0, none⟩) 0 0) := c1
        have HR : Hid (BodyAt (w.alloc (.view ⟨g, 0, none⟩ 5)).drew b x ∧ Only b w (w.alloc (.view ⟨g, 0, none⟩ 5)).drew ∧ (w.alloc (.view ⟨g, 0, none⟩ 5)).drew.heap[b]? = w.heap[b]?) :=
          bstr_end (w' := (w.alloc (.view ⟨g, 0, none⟩ 5)).drew) hh had (by rw [h0]; exact hown.alloc _) (Lib.alloc_old w _ b hlt) ⟨rfl, rfl, rfl, by simp⟩ fun k hk _ => Lib.alloc_old w _ k hk
        clear hown hh had hne hnil hsz h0 r hg
        go_enter Tryz.func65, Tryz.ntmps65
        go_wp2
        go_region
        all_goals (go_wp2; go_ret; exact ⟨rfl, HR.out⟩)
      · have c1 : w.drew.cell? ⟨b, 5, none⟩ = some (.slice (some ⟨g, 0, none⟩) 0 cap) := (body_cell (w := w.drew) hh).2.1
        have hSD : (Builtin.unsafeSliceData_ #[143] 156 #[.slice (some ⟨g, 0, none⟩) 0 cap]).run Tryz.prog w.drew = .ok (.pointer (some ⟨g, 0, none⟩)) w.drew := Lib.run_unsafeSliceData_row _ _ _ _ _ _ hc0
        have HR : Hid (BodyAt w.drew b x ∧ Only b w w.drew ∧ w.drew.heap[b]? = w.heap[b]?) := bstr_end hh had (w' := w.drew) (by rw [h0]; exact hown) rfl ⟨rfl, rfl, rfl, Nat.le_refl _⟩ fun _ _ _ => rfl
        clear hown hh had hne hnil hsz h0 r hg hc0
        go_enter Tryz.func65, Tryz.ntmps65
        go_wp2
        go_region
        all_goals (go_wp2; go_ret; exact ⟨rfl, HR.out⟩)
  · obtain ⟨g, cap, cur, fz, hv, hbg, hg, hfz, hnc, hcm, hcs, htake⟩ : ∃ g cap cur fz, v = .slice (some ⟨g, 0, none⟩) x.data.size cap ∧ 0 ≤ g ∧ w.heap[g]? = some (.cells cur 5 fz) ∧ fz.2 ≤ x.data.size * 1 ∧ x.data.size ≤ cap ∧ cap ≤ maxLen ∧ cur.size = cap * 1 ∧ cur.toList.take (x.data.size * 1) = Lib.byteCells x.data.data.toList := by
      rcases hown.2 with ⟨_, hz⟩ | ⟨g, cap, cur, fz, hv, r⟩
      · exact absurd hz h0
      · exact ⟨g, cap, cur, fz, hv, r⟩
    subst hv
    have c1 : w.drew.cell? ⟨b, 5, none⟩ = some (.slice (some ⟨g, 0, none⟩) x.data.size cap) := (body_cell (w := w.drew) hh).2.1
    have hSD : (Builtin.unsafeSliceData_ #[143] 156 #[.slice (some ⟨g, 0, none⟩) x.data.size cap]).run Tryz.prog w.drew = .ok (.pointer (some ⟨g, 0, none⟩)) w.drew := Lib.run_unsafeSliceData_row _ _ _ _ _ _ (by omega)
    have hUS : (Builtin.unsafeString_ #[156, 3] 9 #[.pointer (some ⟨g, 0, none⟩), .int .i64 x.data.size]).run Tryz.prog w.drew = .ok (.string x.data) (w.drew.freeze ⟨g, 0, none⟩ x.data.size) := by
      have := Lib.run_unsafeString_row w.drew 156 3 9 5 Tryz.underlying156 cells5 g cur.size (by have hg' : w.drew.heap[g]? = some (.cells cur 5 fz) := hg; simp [World.shape?, hg']) x.data.data.toList (by intro e; rw [e] at hsz; exact h0 hsz.symm) (by omega) (by unfold maxLen at hcm; omega) (by
        intro j y hy
        have := hown.cells (g := g) rfl j (.int .u8 y.toNat) (by simp [Lib.byteCells, hy])
        exact this)
      rw [hsz] at this
      exact this
    have hgb : b ≠ g := fun e => hne (by simp [Value.ownBlock, e])
    have HR : Hid (BodyAt (w.drew.freeze ⟨g, 0, none⟩ x.data.size) b x ∧ Only b w (w.drew.freeze ⟨g, 0, none⟩ x.data.size) ∧ (w.drew.freeze ⟨g, 0, none⟩ x.data.size).heap[b]? = w.heap[b]?) := by
      have hfs := freeze_size w.drew g x.data.size
      refine bstr_end hh had (froze_own (w := w.drew) hown) (freeze_other w.drew g _ b hgb) ⟨hfs.2.1, hfs.2.2.1, hfs.2.2.2, Nat.le_of_eq hfs.1.symm⟩ fun k _ hk => freeze_other w.drew g _ k (fun e => hk (by simp [Value.ownBlock, e]))
    obtain ⟨n, hn⟩ : ∃ n, n = x.data.size := ⟨_, rfl⟩
    obtain ⟨D, hD⟩ : ∃ D, D = x.data := ⟨_, rfl⟩
    rw [← hn] at c1 hSD hUS HR
    rw [← hD] at hUS ⊢
    clear hown hh had hne hsz h0 hfz hnc hcm hcs htake hg hn hD
    go_enter Tryz.func65, Tryz.ntmps65
    go_wp2
    go_region
    all_goals (go_wp2; go_ret; exact ⟨rfl, HR.out⟩)
theorem bstr_c (b : Nat) (x : Bd) (w : World) (h : BodyAt w b x) :
    Calls Tryz.prog 65 #[.pointer (some ⟨b, 4, none⟩)] w fun e w' => e = .returned (.string x.data) ∧ BodyAt w' b x ∧ Only b w w' :=
  (bstr_k b x w h).mono fun _ _ h => ⟨h.1, h.2.1, h.2.2.1⟩
end Go.Proofs.YtjbphheojfclcaaGreat
