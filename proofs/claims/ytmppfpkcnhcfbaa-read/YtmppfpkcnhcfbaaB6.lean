
-- shelfref8.Read: the whole contract.
import Derived.Test.YtmppfpkcnhcfbaaB5
namespace Go.Proofs.Ytmppfpkcnhcfbaa
open Go.ChangeShapes Go.WideShapes Go.ChangeAt Go.RowKit
set_option linter.unusedVariables false
set_option maxRecDepth 100000

theorem ne_lit (s : ByteArray) (l : List UInt8) (h : ¬ s.data.toList = l) : (s.toList == l) = false := by
  rw [Lib.toList_data]; simpa using h
theorem is_lit (s : ByteArray) (l : List UInt8) (h : s.data.toList = l) : s = strL l := by rw [← h, strL_of]
theorem rest_is (l : List UInt8) (n1 a2 a3 b2 k1 n3 c2 k3 v : Bool) (P s : ByteArray) (v1 v3 : Int)
    (h1 : n1 = decide (1 < l.length)) (ha2 : n1 = true → a2 = decide (l[l.length - 1]? = some 47)) (ha3 : n1 = true → a3 = validL (l.take (l.length - 1))) (hP : n1 = true → P = strL (l.take (l.length - 1)))
    (hb2 : n1 = true → b2 = decide (l[0]? = some 47)) (hk1 : n1 = true → k1 = (digL (l.drop 1) 15).isSome) (hv1 : n1 = true → v1 = ((digL (l.drop 1) 15).getD 0 : Nat))
    (h3 : n3 = decide (3 < l.length)) (hc2 : n3 = true → c2 = decide (l.take 3 = [35, 49, 47])) (hk3 : n3 = true → k3 = (digL (l.drop 3) 13).isSome) (hv3 : n3 = true → v3 = ((digL (l.drop 3) 13).getD 0 : Nat))
    (hv : v = validL l) (hs : s = strL l) : rdOut n1 a2 a3 b2 k1 n3 c2 k3 v P s v1 v3 = readRest l := by
  unfold rdOut readRest
  have eA : (n1 && (a2 && a3)) = decide (1 < l.length ∧ l[l.length - 1]? = some 47 ∧ validL (l.take (l.length - 1)) = true) := by
    cases n1
    · have : ¬ 1 < l.length := by simpa using h1
      rw [decide_eq_false (fun h => this h.1)]; rfl
    · have : 1 < l.length := by simpa using h1
      rw [ha2 rfl, ha3 rfl, Bool.true_and]
      by_cases q : l[l.length - 1]? = some 47
      · rw [decide_eq_true q, Bool.true_and]
        cases e : validL (l.take (l.length - 1))
        · rw [decide_eq_false]; rintro ⟨_, _, h⟩; cases h
        · rw [decide_eq_true]; exact ⟨this, q, rfl⟩
      · rw [decide_eq_false q, Bool.false_and, decide_eq_false (fun h => q h.2.1)]
  have eB : (n1 && (b2 && k1)) = decide (1 < l.length ∧ l[0]? = some 47 ∧ (digL (l.drop 1) 15).isSome = true) := by
    cases n1
    · have : ¬ 1 < l.length := by simpa using h1
      rw [decide_eq_false (fun h => this h.1)]; rfl
    · have : 1 < l.length := by simpa using h1
      rw [hb2 rfl, hk1 rfl, Bool.true_and]
      by_cases q : l[0]? = some 47
      · rw [decide_eq_true q, Bool.true_and]
        cases e : (digL (l.drop 1) 15).isSome
        · rw [decide_eq_false]; rintro ⟨_, _, h⟩; cases h
        · rw [decide_eq_true]; exact ⟨this, q, rfl⟩
      · rw [decide_eq_false q, Bool.false_and, decide_eq_false (fun h => q h.2.1)]
  have eC : (n3 && (c2 && k3)) = decide (3 < l.length ∧ l.take 3 = [35, 49, 47] ∧ (digL (l.drop 3) 13).isSome = true) := by
    cases n3
    · have : ¬ 3 < l.length := by simpa using h3
      rw [decide_eq_false (fun h => this h.1)]; rfl
    · have : 3 < l.length := by simpa using h3
      rw [hc2 rfl, hk3 rfl, Bool.true_and]
      by_cases q : l.take 3 = [35, 49, 47]
      · rw [decide_eq_true q, Bool.true_and]
        cases e : (digL (l.drop 3) 13).isSome
        · rw [decide_eq_false]; rintro ⟨_, _, h⟩; cases h
        · rw [decide_eq_true]; exact ⟨this, q, rfl⟩
      · rw [decide_eq_false q, Bool.false_and, decide_eq_false (fun h => q h.2.1)]
  rw [eA, eB, eC, hv, hs]
  by_cases A : 1 < l.length ∧ l[l.length - 1]? = some 47 ∧ validL (l.take (l.length - 1)) = true
  · rw [if_pos (decide_eq_true A), if_pos A, hP (by rw [h1]; exact decide_eq_true A.1)]
  · rw [if_neg (by rw [decide_eq_false A]; decide), if_neg A]
    by_cases Bq : 1 < l.length ∧ l[0]? = some 47 ∧ (digL (l.drop 1) 15).isSome = true
    · rw [if_pos (decide_eq_true Bq), if_pos Bq, hv1 (by rw [h1]; exact decide_eq_true Bq.1)]; rfl
    · rw [if_neg (by rw [decide_eq_false Bq]; decide), if_neg Bq]
      by_cases Cq : 3 < l.length ∧ l.take 3 = [35, 49, 47] ∧ (digL (l.drop 3) 13).isSome = true
      · rw [if_pos (decide_eq_true Cq), if_pos Cq, hv3 (by rw [h3]; exact decide_eq_true Cq.1)]; rfl
      · rw [if_neg (by rw [decide_eq_false Cq]; decide), if_neg Cq]; rfl
theorem beq47 (c : UInt8) (l : List UInt8) (j : Nat) (h : l[j]? = some c) : (((c.toNat : Nat) : Int) == 47) = decide (l[j]? = some 47) := by
  rw [h]
  by_cases e : c = 47
  · rw [e]; rfl
  · have : ¬ c.toNat = 47 := fun hc => e (UInt8.toNat_inj.1 hc)
    rw [decide_eq_false (fun hh => e (Option.some.inj hh))]
    simp; omega
theorem rread_c (s : ByteArray) (w : World) (hm : s.size ≤ maxLen) :
    Calls Try.prog 15 #[.string s] w fun e w' => e = .returned (.tuple #[flV (readL s.data.toList).1, .int .i64 (readL s.data.toList).2]) ∧ Below w.heap.size w w' := by
  have hl : s.data.toList.length = s.size := by simp
  unfold readL
  by_cases h16 : 16 < s.data.toList.length
  · rw [if_pos h16]; exact read_long s w hm (by omega)
  rw [if_neg h16]
  by_cases q1 : s.data.toList = [47]
  · rw [if_pos q1, is_lit s _ q1]; exact read_47 w
  rw [if_neg q1]
  by_cases q2 : s.data.toList = fSYM64
  · rw [if_pos q2, is_lit s _ q2]; exact read_SYM64 w
  rw [if_neg q2]
  by_cases q3 : s.data.toList = [47, 47]
  · rw [if_pos q3, is_lit s _ q3]; exact read_slashes w
  rw [if_neg q3]
  by_cases q4 : s.data.toList = fSYMDEF
  · rw [if_pos q4, is_lit s _ q4]; exact read_SYMDEF w
  rw [if_neg q4]
  have c16 : decide ((16 : Int) < (s.size : Int)) = false := by simp; omega
  have HV : Hid (∀ (g : ByteArray) (w : World), g.size ≤ 16 → Calls Try.prog 10 #[.string g] w fun e w' => e = .returned (.bool ((fun g : ByteArray => validL g.data.toList) g)) ∧ w' = w) := fun g w hg => rvalid_c g w (by unfold maxLen; omega)
  have HD1 : Hid (∀ (g : ByteArray) (k : Int) (w : World), g.size ≤ 16 → k = 15 ∨ k = 13 → Calls Try.prog 20 #[.string g, .int .i64 k] w fun e w' => e = .returned (.tuple #[.int .i64 ((fun (g : ByteArray) (k : Int) => (((digL g.data.toList k.toNat).getD 0 : Nat) : Int)) g k), .bool ((fun (g : ByteArray) (k : Int) => (digL g.data.toList k.toNat).isSome) g k)]) ∧ w' = w) := fun g k w hg hk => by
    rcases hk with rfl | rfl
    · exact rdigits_c g 15 w (by unfold maxLen; omega) (by omega)
    · exact rdigits_c g 13 w (by unfold maxLen; omega) (by omega)
  have e1 := ne_lit s _ q1
  have e2 := ne_lit s _ q2
  have e3 := ne_lit s _ q3
  have e4 := ne_lit s _ q4
  by_cases h1 : 1 < s.size
  rotate_left
  · have hx := read_few s w hm c16 e1 e2 e3 e4 _ HV (by omega) (by simp; omega) (by simp; omega)
    rw [rest_is s.data.toList false false false false false false false false _ s s 0 0 (decide_eq_false (by omega)).symm (fun h => by cases h) (fun h => by cases h) (fun h => by cases h) (fun h => by cases h) (fun h => by cases h) (fun h => by cases h) (decide_eq_false (by omega)).symm (fun h => by cases h) (fun h => by cases h) (fun h => by cases h) rfl (strL_of s).symm] at hx
    exact hx
  have hix := idx s (s.size - 1) (by omega)
  have hxa := beq47 _ _ _ (at_some s (s.size - 1) (by omega))
  rw [show ((s.size - 1 : Nat) : Int) = (s.size : Int) - 1 from by omega] at hix
  have hiy := idx s 0 (by omega)
  have hyb := beq47 _ _ _ (at_some s 0 (by omega))
  have sP := slice_to s (s.size - 1) (by omega)
  rw [show ((s.size - 1 : Nat) : Int) = (s.size : Int) - 1 from by omega] at sP
  have sD := slice_at s 1 (by omega)
  by_cases h3 : 3 < s.size
  · have sT := slice_to s 3 (by omega)
    have sE := slice_at s 3 (by omega)
    have hT : ((strL (s.data.toList.take 3)).toList == [35, 49, 47]) = decide (s.data.toList.take 3 = [35, 49, 47]) := by
      rw [Lib.toList_data, strL_data]
      by_cases h : s.data.toList.take 3 = [35, 49, 47]
      · rw [h]; rfl
      · rw [decide_eq_false h]; simpa using h
    have hx := read_three s w hm c16 e1 e2 e3 e4 _ HV (by omega) _ (by rw [strL_size, List.length_take]; omega) _ _ _ hix hxa sP _ _ _ _ (by rw [strL_size, List.length_drop]; omega) hiy hyb sD HD1 _ _ _ (by rw [strL_size, List.length_drop]; omega) sT hT sE (by simp; omega) (by simp; omega)
    rw [rest_is s.data.toList true _ _ _ _ true _ _ _ _ s _ _ (decide_eq_true (by omega)).symm (fun _ => by rw [hl]) (fun _ => by rw [strL_data, hl]) (fun _ => by rw [hl]) (fun _ => rfl) (fun _ => by rw [strL_data]; rfl) (fun _ => by rw [strL_data]; rfl) (decide_eq_true (by omega)).symm (fun _ => rfl) (fun _ => by rw [strL_data]; rfl) (fun _ => by rw [strL_data]; rfl) rfl (strL_of s).symm] at hx
    exact hx
  · have hx := read_two s w hm c16 e1 e2 e3 e4 _ HV (by omega) _ (by rw [strL_size, List.length_take]; omega) _ _ _ hix hxa sP _ _ _ _ (by rw [strL_size, List.length_drop]; omega) hiy hyb sD HD1 (by simp; omega) (by simp; omega)
    rw [rest_is s.data.toList true _ _ _ _ false false false _ _ s _ 0 (decide_eq_true (by omega)).symm (fun _ => by rw [hl]) (fun _ => by rw [strL_data, hl]) (fun _ => by rw [hl]) (fun _ => rfl) (fun _ => by rw [strL_data]; rfl) (fun _ => by rw [strL_data]; rfl) (decide_eq_false (by omega)).symm (fun h => by cases h) (fun h => by cases h) (fun h => by cases h) rfl (strL_of s).symm] at hx
    exact hx
end Go.Proofs.Ytmppfpkcnhcfbaa
