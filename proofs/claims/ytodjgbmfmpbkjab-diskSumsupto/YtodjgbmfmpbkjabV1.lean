-- The program's own bookkeeping, as plain data: changes of a directory, and the directories that they lead through.
import Derived.Test.YtodjgbmfmpbkjabP3
import Derived.Test.YtodjgbmfmpbkjabMM
namespace Go.Proofs.Ytodjgbmfmpbkjab
open Go
set_option linter.unusedVariables false
structure Chg where
  fr : ByteArray
  to : ByteArray
  num : Nat
def Chg.app (c : Chg) (d : Dr) : Dr := if c.to = ⟨#[]⟩ then without d c.fr else with_ (without d c.fr) c.to c.num
def Chg.vs (c : Chg) : List Value := [.string c.fr, .string c.to, .int .i64 c.num]
def endOf (d : Dr) (cs : List Chg) : Dr := cs.foldl (fun x c => c.app x) d
def chain (d : Dr) : List Chg → List Dr
  | [] => [d]
  | c :: r => d :: chain (c.app d) r
theorem chain_len (d : Dr) (cs : List Chg) : (chain d cs).length = cs.length + 1 := by
  induction cs generalizing d with
  | nil => rfl
  | cons c r ih => simp [chain, ih]
theorem chain_snoc (d : Dr) (cs : List Chg) (c : Chg) : chain d (cs ++ [c]) = chain d cs ++ [c.app (endOf d cs)] := by
  induction cs generalizing d with
  | nil => rfl
  | cons x r ih => simp [chain, ih, endOf]
theorem chain_get (d : Dr) (cs : List Chg) (k : Nat) (h : k ≤ cs.length) : (chain d cs)[k]? = some (endOf d (cs.take k)) := by
  induction cs generalizing d k with
  | nil => simp at h; subst h; rfl
  | cons c r ih =>
    cases k with
    | zero => rfl
    | succ k => simp at h; simp [chain, ih _ k h, endOf]
theorem chain_last (d : Dr) (cs : List Chg) : (chain d cs).getLast? = some (endOf d cs) := by
  rw [List.getLast?_eq_getElem?, chain_len, Nat.add_sub_cancel, chain_get d cs _ (Nat.le_refl _), List.take_length]
theorem endOf_take (d : Dr) (cs : List Chg) (k : Nat) (c : Chg) (h : cs[k]? = some c) : endOf d (cs.take (k + 1)) = c.app (endOf d (cs.take k)) := by
  rw [List.take_add_one, h]; simp [endOf]
theorem chain_head (d : Dr) (cs : List Chg) : (chain d cs)[0]? = some d := by
  rw [chain_get d cs 0 (Nat.zero_le _)]; rfl
/-- A directory as a map's pairs. -/
def dv (d : Dr) : Prs := d.map fun e => (.string e.1, .int .i64 e.2)
/-- Bodies by number: pairs of numbers and blocks. -/
def bv (l : List (Nat × Nat)) : Prs := l.map fun e => (.int .i64 e.1, .pointer (some ⟨e.2, 0, none⟩))
abbrev DN (d : Dr) : Prop := d.Pairwise fun a b => a.1 ≠ b.1
theorem Dw.dn {d : Dr} (h : Dw d) : DN d := h.rise.imp_of_mem fun {a b} _ _ hlt e => by rw [e, ltB_irrefl] at hlt; cases hlt
theorem without_of_not (d : Dr) (n : ByteArray) (h : ∀ e ∈ d, e.1 ≠ n) : without d n = d := List.filter_eq_self.2 fun e he => by simpa using h e he
theorem without_perm {d : Dr} (hd : DN d) {n : ByteArray} {x : Nat} (h : (n, x) ∈ d) : d.Perm ((n, x) :: without d n) := by
  induction d with
  | nil => simp at h
  | cons e r ih =>
    obtain ⟨h1, h2⟩ := List.pairwise_cons.1 hd
    rcases List.mem_cons.1 h with he | he
    · subst he
      have : without ((n, x) :: r) n = r := by
        unfold without
        rw [List.filter_cons_of_neg (by simp)]
        exact List.filter_eq_self.2 fun f hf => by simpa using (h1 f hf).symm
      rw [this]
    · have hne : e.1 ≠ n := h1 _ he
      have : without (e :: r) n = e :: without r n := by
        unfold without
        rw [List.filter_cons_of_pos (by simpa using hne)]
      rw [this]
      exact ((ih h2 he).cons e).trans (List.Perm.swap _ _ _)
theorem leads_zero {d : Dr} (hp : ∀ e ∈ d, 1 ≤ e.2) {n : ByteArray} (h : leads d n = 0) : ∀ e ∈ d, e.1 ≠ n := fun e he hn => by
  subst hn
  exact leads_ne d e he (fun f hf => by have := hp f hf; omega) h
theorem dv_mem {d : Dr} {n : ByteArray} {x : Nat} (h : (n, x) ∈ d) : (Value.string n, Value.int .i64 x) ∈ dv d := List.mem_map.2 ⟨(n, x), h, rfl⟩
theorem dv_no {d : Dr} {n : ByteArray} (h : ∀ e ∈ d, e.1 ≠ n) : ∀ p ∈ dv d, p.1 ≠ Value.string n := by
  intro p hp
  obtain ⟨e, he, rfl⟩ := List.mem_map.1 hp
  intro hv
  exact h e he (by simpa using hv)
theorem dv_dn {d : Dr} (h : (dv d).Pairwise fun p q => p.1 ≠ q.1) : DN d := by
  unfold dv at h
  rw [List.pairwise_map] at h
  exact h.imp_of_mem fun {a b} _ _ hne e => hne (by simp [e])
theorem bv_mem {l : List (Nat × Nat)} {n b : Nat} (h : (n, b) ∈ l) : (Value.int .i64 n, Value.pointer (some ⟨b, 0, none⟩)) ∈ bv l := List.mem_map.2 ⟨(n, b), h, rfl⟩
theorem bv_no {l : List (Nat × Nat)} {n : Int} (h : ∀ e ∈ l, (e.1 : Int) ≠ n) : ∀ p ∈ bv l, p.1 ≠ Value.int .i64 n := by
  intro p hp
  obtain ⟨e, he, rfl⟩ := List.mem_map.1 hp
  intro hv
  exact h e he (by simpa using hv)
theorem bv_uniq {l : List (Nat × Nat)} (h : (bv l).Pairwise fun p q => p.1 ≠ q.1) : (l.map (·.1)).Nodup := by
  unfold bv at h
  rw [List.pairwise_map] at h
  rw [List.Nodup, List.pairwise_map]
  exact h.imp_of_mem fun {a b} _ _ hne e => hne (by simp [e])
theorem key_s (s : ByteArray) : MapKept.IsKey .string (.string s) := trivial
theorem key_i (n : Int) : MapKept.IsKey (.int .i64) (.int .i64 n) := rfl
section
variable {P : Program} {w : World} {b : Nat} {t k e : TypeId}
theorem dv_look (c : Bool) {d : Dr} (h : MapAt .string w b (dv d)) (hp : ∀ e ∈ d, 1 ≤ e.2) (ht : P.underlying t = some (.map k e)) (hd : P.underlying k = some .string) (hz : (zeroValue e).run P w = .ok (.int .i64 0) w) (n : ByteArray) :
    (Instr.lookup t (.map (some b)) (.string n) c).run P w = .ok (if c then .tuple #[.int .i64 (leads d n), .bool (decide (leads d n ≠ 0))] else .int .i64 (leads d n)) w := by
  by_cases h0 : leads d n = 0
  · rw [h.look_no c ht hd (key_s n) (dv_no (leads_zero hp h0)) hz, h0]; simp
  · rw [h.look c ht hd (key_s n) (dv_mem (leads_mem d n h0))]; simp [h0]
theorem dv_drop {d : Dr} (h : MapAt .string w b (dv d)) (ht : P.underlying t = some (.map k e)) (hd : P.underlying k = some .string) (n : ByteArray) (ty : TypeId) :
    ∃ w', (Builtin.delete_ #[t, k] ty #[.map (some b), .string n]).run P w = .ok (.tuple #[]) w' ∧ MapAt .string w' b (dv (without d n)) ∧ Turned w w' b := by
  by_cases hn : ∃ x, (n, x) ∈ d
  · obtain ⟨x, hx⟩ := hn
    exact h.drop ht hd (key_s n) (v := .int .i64 x) (l0 := dv (without d n)) ((without_perm (dv_dn h.apart) hx).map _) ty
  · have hno : ∀ e ∈ d, e.1 ≠ n := fun e he hen => hn ⟨e.2, by rw [← hen]; exact he⟩
    rw [without_of_not d n hno]
    exact h.drop_no ht hd (key_s n) (dv_no hno) ty
theorem dv_store {d : Dr} (h : MapAt .string w b (dv d)) (ht : P.underlying t = some (.map k e)) (hd : P.underlying k = some .string) (n : ByteArray) (x : Nat) :
    ∃ w', (Instr.mapUpdate t (.map (some b)) (.string n) (.int .i64 x)).run P w = .ok () w' ∧ MapAt .string w' b (dv (with_ d n x)) ∧ Turned w w' b := by
  have hperm : (dv (with_ d n x)).Perm ((.string n, .int .i64 x) :: dv (without d n)) := (ins_perm n x (without d n)).map _
  by_cases hn : ∃ y, (n, y) ∈ d
  · obtain ⟨y, hy⟩ := hn
    obtain ⟨w', h1, h2, h3⟩ := h.store_old ht hd (key_s n) (v := .int .i64 y) (l0 := dv (without d n)) ((without_perm (dv_dn h.apart) hy).map _) (.int .i64 x)
    exact ⟨w', h1, h2.perm hperm.symm, h3⟩
  · have hno : ∀ e ∈ d, e.1 ≠ n := fun e he hen => hn ⟨e.2, by rw [← hen]; exact he⟩
    obtain ⟨w', h1, h2, h3⟩ := h.store_new ht hd (key_s n) (dv_no hno) (.int .i64 x)
    rw [without_of_not d n hno] at hperm
    exact ⟨w', h1, h2.perm hperm.symm, h3⟩
end
theorem dv_len (d : Dr) : (dv d).length = d.length := by simp [dv]
theorem bv_len (l : List (Nat × Nat)) : (bv l).length = l.length := by simp [bv]
end Go.Proofs.Ytodjgbmfmpbkjab
