
-- Plain mathematics: how great a list of names is; the table.
import Derived.Test.YtmlnnbinbbmmhaaDoorK2
import Derived.Test.YtmlnnbinbbmmhaaDoorE4k0
import Derived.Test.YtmlnnbinbbmmhaaDoorE4k1
import Derived.Test.YtmlnnbinbbmmhaaDoorE4k2
namespace Go.Proofs.YtmlnnbinbbmmhaaDoor
open Go.ChangeShapes Go.WideShapes Go.ChangeAt Go.RowKit
set_option linter.unusedVariables false
set_option maxRecDepth 100000

def tot (l : List ByteArray) : Nat := (l.map fun b => b.size + 1).sum
theorem tot_cons (b : ByteArray) (r : List ByteArray) : tot (b :: r) = b.size + 1 + tot r := by simp [tot]
theorem tot_len (l : List ByteArray) : l.length ≤ tot l := by
  induction l with
  | nil => simp
  | cons b r ih => rw [tot_cons, List.length_cons]; omega
theorem tot_filter (l : List ByteArray) (p : ByteArray → Bool) : tot (l.filter p) ≤ tot l := by
  induction l with
  | nil => simp
  | cons b r ih =>
    rw [tot_cons]
    by_cases h : p b = true
    · rw [List.filter_cons_of_pos h, tot_cons]; omega
    · rw [List.filter_cons_of_neg h]; omega
theorem tot_take (l : List ByteArray) (j : Nat) : tot (l.take j) ≤ tot l := by
  induction l generalizing j with
  | nil => simp
  | cons b r ih =>
    cases j with
    | zero => simp [tot]
    | succ j => rw [List.take_succ_cons, tot_cons, tot_cons]; have := ih j; omega
theorem size_tot (l : List ByteArray) (j : Nat) (h : j < l.length) : (l.getD j .empty).size + 1 ≤ tot l := by
  induction l generalizing j with
  | nil => simp at h
  | cons b r ih =>
    rw [tot_cons]
    cases j with
    | zero => simp
    | succ j => have := ih j (by simpa using h); simp at this ⊢; omega
theorem wsum_tot (l : List ByteArray) : wsum l ≤ 2 * tot l := by
  induction l with
  | nil => simp [wsum]
  | cons b r ih =>
    have : wsum (b :: r) = b.size + 2 + wsum r := by simp [wsum]
    rw [this, tot_cons]; omega
theorem tab_tot (k : Int) (l : List ByteArray) : (tabL k (l.map (·.data.toList))).length ≤ 2 * tot l := by
  induction l with
  | nil => simp [tabL]
  | cons b r ih =>
    have hb : b.data.toList.length = b.size := by simp
    have : tabL k ((b :: r).map (·.data.toList)) = tabOf k b.data.toList ++ tabL k (r.map (·.data.toList)) := by simp [tabL]
    rw [this, List.length_append, tot_cons]
    have : (tabOf k b.data.toList).length ≤ b.size + 2 := by
      unfold tabOf; split
      · rw [List.length_append, hb]; simp
      · simp
    omega
theorem tab_take (k : Int) (l : List ByteArray) (j : Nat) : (tabL k ((l.map (·.data.toList)).take j)).length ≤ 2 * tot l := by
  rw [← List.map_take]
  exact Nat.le_trans (tab_tot k (l.take j)) (by have := tot_take l j; omega)
theorem all_ok (L : List ByteArray) (j : Nat) (hj : j < (L.filter okN).length) : validL ((L.filter okN).getD j .empty).data.toList = true := by
  have e : (L.filter okN).getD j .empty = (L.filter okN)[j] := by simp [List.getD, List.getElem?_eq_getElem hj]
  rw [e]
  have := List.getElem_mem hj
  exact (List.mem_filter.1 this).2
/-- every list of valid names is written -/
theorem pencode_ok (k : Int) (hk : k = 0 ∨ k = 1 ∨ k = 2) (lv : Value) (L : List ByteArray) (w : World) (hr : RowS w lv (L.filter okN)) (ht : tot L ≤ 1048575) (hT : Tabs w) :
    Calls Tryd.prog 10 #[.int .i64 k, lv] w fun e w' => EncDone k (L.filter okN) w e w' := by
  have t1 := tot_filter L okN
  have hl := tot_len (L.filter okN)
  rcases hk with rfl | rfl | rfl
  · exact (enc_0 lv (L.filter okN) w _ hr (by omega) (fun j hj => by have := size_tot _ j hj; omega) (fun j => by have := tab_take 0 (L.filter okN) j; omega) hT (Nat.le_refl _) (fun j hj => all_ok L j hj) (fun h => absurd h (Nat.lt_irrefl _))).mono fun e w' h => h.1 rfl
  · exact (enc_1 lv (L.filter okN) w _ hr (by omega) (fun j hj => by have := size_tot _ j hj; omega) (fun j => by have := tab_take 1 (L.filter okN) j; omega) hT (Nat.le_refl _) (fun j hj => all_ok L j hj) (fun h => absurd h (Nat.lt_irrefl _))).mono fun e w' h => h.1 rfl
  · exact (enc_2 lv (L.filter okN) w _ hr (by omega) (fun j hj => by have := size_tot _ j hj; omega) (fun j => by have := tab_take 2 (L.filter okN) j; omega) hT (Nat.le_refl _) (fun j hj => all_ok L j hj) (fun h => absurd h (Nat.lt_irrefl _))).mono fun e w' h => h.1 rfl
theorem tab_split (k : Int) (L : List (List UInt8)) (j : Nat) : tabL k L = tabL k (L.take j) ++ tabL k (L.drop j) := by
  unfold tabL; rw [← List.flatMap_append, List.take_append_drop]
theorem tab_mono (k : Int) (L : List (List UInt8)) (j : Nat) : (tabL k (L.take j)).length ≤ (tabL k L).length := by
  rw [tab_split k L j, List.length_append]; omega
/-- from a name's place on, the table is its entry and the rest -/
theorem tab_piece (k : Int) (L : List (List UInt8)) (j : Nat) (x : List UInt8) (h : L[j]? = some x) (t : Nat) (ht : (tabL k (L.take j)).length = t) : (tabL k L).drop t = tabOf k x ++ tabL k (L.drop (j + 1)) := by
  have e : tabL k L = tabL k (L.take j) ++ (tabOf k x ++ tabL k (L.drop (j + 1))) := by
    rw [tab_split k L (j + 1), tab_next k L j x h, List.append_assoc]
  rw [e, List.drop_left' ht]
theorem rowAt_full (φ : Nat → List UInt8) (n j : Nat) (hj : j < n) : (rowAt φ n n)[j]? = some (.string (strL (φ j))) := by
  simp [rowAt, hj]
theorem bel3' {w a b : World} (h : Below w.heap.size w a) (k : Below a.heap.size a b) : Below w.heap.size w b := h.trans (k.mono h.size)
theorem kind3 (a : Int) : (a.tmod 3 + 3).tmod 3 = 0 ∨ (a.tmod 3 + 3).tmod 3 = 1 ∨ (a.tmod 3 + 3).tmod 3 = 2 := by
  have h1 := Int.tmod_lt_of_pos a (show (0 : Int) < 3 by decide)
  have h2 : -3 < a.tmod 3 := by have := Int.lt_tmod_of_pos a (show (0 : Int) < 3 by decide); omega
  have e : (a.tmod 3 + 3).tmod 3 = (a.tmod 3 + 3) % 3 := Int.tmod_eq_emod_of_nonneg (by omega)
  rw [e]; omega
end Go.Proofs.YtmlnnbinbbmmhaaDoor
