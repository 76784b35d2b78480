
-- Plain mathematics: a field put together by a line of the table of sorts is read as that line says.
import Derived.Test.YtmlnnbinbbmmhaaDoorC0
namespace Go.Proofs.YtmlnnbinbbmmhaaDoor
set_option linter.unusedVariables false
set_option maxRecDepth 100000

/-- told: refused if too long, else read so -/
def Told (l : List UInt8) (so v : Int) (n : ByteArray) : Prop := readL l = if 16 < l.length then (fl0, 80) else (⟨so, v, n⟩, 0)
theorem told_1 : Told [47] 1 0 ⟨#[]⟩ := rfl
theorem told_2 : Told fSYM64 2 0 ⟨#[]⟩ := by
  unfold Told readL
  rw [if_neg (by decide), if_neg (by decide), if_pos rfl, if_neg (by decide)]; rfl
theorem told_3 : Told [47, 47] 3 0 ⟨#[]⟩ := rfl
theorem told_8 : Told fSYMDEF 8 0 ⟨#[]⟩ := by
  unfold Told readL
  rw [if_neg (by decide), if_neg (by decide), if_neg (by decide), if_neg (by decide), if_pos rfl, if_neg (by decide)]; rfl
theorem dig_ne (c : UInt8) (h : dig 10 c = true) : ¬ c = 47 := by rintro rfl; revert h; decide
theorem last_dig (a d : List UInt8) (h0 : ¬ d = []) (hd : d.all (dig 10) = true) : ¬ Lib.hasSuffix (a ++ d) [47] = true := by
  rw [hasSuffix_one, List.getLast?_append]
  intro h
  rw [List.getLast?_eq_some_getLast h0] at h
  simp only [Option.some_or] at h
  injection h with h
  have := List.all_eq_true.1 hd _ (List.getLast_mem h0)
  exact dig_ne _ this h
theorem digL_yes (d : List UInt8) (most : Nat) (h0 : ¬ d = []) (hd : d.all (dig 10) = true) (hl : d.length ≤ most) : digL d most = some (val 10 0 d) := by
  unfold digL; rw [if_neg]
  rintro (h | h | h)
  · exact h0 h
  · omega
  · rw [hd] at h; cases h
theorem not_valid_slash (l : List UInt8) (h : (47 : UInt8) ∈ l) : validL l = false := by
  cases e : validL l
  · rfl
  · exact absurd h ((validL_iff _).1 e).2.1
theorem last_is (a d : List UInt8) (h0 : ¬ d = []) (m : List UInt8) (e : a ++ d = m) (c : UInt8) (hm : m.getLast? = some c) : d.getLast? = some c := by
  rw [← e, List.getLast?_append, List.getLast?_eq_some_getLast h0, Option.some_or] at hm
  rw [List.getLast?_eq_some_getLast h0]; exact hm
theorem told_5 (d : List UInt8) (h0 : ¬ d = []) (hd : d.all (dig 10) = true) : Told (47 :: d) 5 (val 10 0 d : Nat) ⟨#[]⟩ := by
  unfold Told readL
  by_cases h16 : 16 < (47 :: d : List UInt8).length
  · rw [if_pos h16, if_pos h16]
  rw [if_neg h16, if_neg h16]
  have hall := List.all_eq_true.1 hd
  have lst : ∀ m : List UInt8, 47 :: d = m → ∀ c, m.getLast? = some c → dig 10 c = true := fun m e c hm =>
    hall c (List.mem_of_getLast? (last_is [47] d h0 m e c hm))
  rw [if_neg (fun e => by have := lst _ e 47 rfl; revert this; decide), if_neg (fun e => by have := lst _ e 47 rfl; revert this; decide), if_neg (fun e => by have := lst _ e 47 rfl; revert this; decide), if_neg (fun e => by injection e with e _; revert e; decide)]
  rw [← readQ_rest _ (by omega)]
  unfold readQ
  have hl : d.length ≤ 15 := by simp at h16; omega
  have hn : numAfter [47] (47 :: d) = some (val 10 0 d) := by
    rw [numAfter_digL [47] _ (by decide) (by omega) 15 (by decide), if_pos ((hasPrefix_slash _).2 rfl)]
    exact digL_yes d 15 h0 hd hl
  rw [if_neg (by rw [not_valid_slash _ (by simp)]; simp), if_neg (fun h => last_dig [47] d h0 hd h.1), hn, if_pos (show (some (val 10 0 d)).isSome = true from rfl)]
  rfl
theorem told_7 (d : List UInt8) (h0 : ¬ d = []) (hd : d.all (dig 10) = true) : Told (35 :: 49 :: 47 :: d) 7 (val 10 0 d : Nat) ⟨#[]⟩ := by
  unfold Told readL
  by_cases h16 : 16 < (35 :: 49 :: 47 :: d : List UInt8).length
  · rw [if_pos h16, if_pos h16]
  rw [if_neg h16, if_neg h16]
  rw [if_neg (fun e => by injection e with e _; revert e; decide), if_neg (fun e => by injection e with e _; revert e; decide), if_neg (fun e => by injection e with e _; revert e; decide), if_neg (fun e => by injection e with e _; revert e; decide)]
  rw [← readQ_rest _ (by omega)]
  unfold readQ
  have hl : d.length ≤ 13 := by simp at h16; omega
  have hn : numAfter [35, 49, 47] (35 :: 49 :: 47 :: d) = some (val 10 0 d) := by
    rw [numAfter_digL [35, 49, 47] _ (by decide) (by omega) 13 (by decide), if_pos ((hasPrefix_three _ _).2 rfl)]
    exact digL_yes d 13 h0 hd hl
  have h5 : numAfter [47] (35 :: 49 :: 47 :: d) = none := by
    rw [numAfter_digL [47] _ (by decide) (by omega) 15 (by decide), if_neg]
    rw [hasPrefix_slash]; intro h; injection h with h; revert h; decide
  rw [if_neg (by rw [not_valid_slash _ (by simp)]; simp), if_neg (fun h => last_dig [35, 49, 47] d h0 hd h.1), h5, if_neg (by simp), hn, if_pos (show (some (val 10 0 d)).isSome = true from rfl)]
  rfl
theorem told_4 (n : List UInt8) (hv : validL n = true) : Told (n ++ [47]) 4 0 (strL n) := by
  have hne := valid_ne n hv
  have hs := fun hc : (47 : UInt8) ∈ n => (valid_no_slash n hv _ hc).1 rfl
  obtain ⟨a, r, rfl⟩ : ∃ a r, n = a :: r := by
    cases n with
    | nil => exact absurd rfl hne
    | cons a r => exact ⟨a, r, rfl⟩
  have ha : ¬ a = 47 := fun e => hs (by rw [e]; simp)
  unfold Told readL
  by_cases h16 : 16 < (a :: r ++ [47] : List UInt8).length
  · rw [if_pos h16, if_pos h16]
  rw [if_neg h16, if_neg h16]
  have hd : ∀ m : List UInt8, (a :: r) ++ [47] = m → m.head? = some 47 → False := fun m e h => by
    rw [← e] at h; simp at h; exact ha h
  have hlast : ¬ (a :: r) ++ [47] = fSYMDEF := fun e => by
    have := congrArg List.getLast? e
    rw [List.getLast?_append, show ([47] : List UInt8).getLast? = some 47 from rfl, Option.some_or] at this; revert this; decide
  rw [if_neg (fun e => hd _ e rfl), if_neg (fun e => hd _ e rfl), if_neg (fun e => hd _ e rfl), if_neg hlast]
  rw [← readQ_rest _ (by omega)]
  unfold readQ
  have h1 : Lib.hasSuffix ((a :: r) ++ [47]) [47] = true := by rw [hasSuffix_one, List.getLast?_append]; rfl
  have h2 : Lib.trimSuffix ((a :: r) ++ [47]) [47] = a :: r := by unfold Lib.trimSuffix; rw [if_pos h1]; simp
  rw [if_neg (by rw [not_valid_slash _ (by simp)]; simp), h2, if_pos ⟨h1, hv⟩]
theorem told_6 (n : List UInt8) (hv : validL n = true) (hn : ¬ n = fSYMDEF) : Told n 6 0 (strL n) := by
  have hs := fun hc : (47 : UInt8) ∈ n => (valid_no_slash n hv _ hc).1 rfl
  unfold Told readL
  by_cases h16 : 16 < n.length
  · rw [if_pos h16, if_pos h16]
  rw [if_neg h16, if_neg h16, if_neg (fun e => hs (by rw [e]; simp)), if_neg (fun e => hs (by rw [e]; decide)), if_neg (fun e => hs (by rw [e]; simp)), if_neg hn]
  rw [← readQ_rest _ (by omega)]
  unfold readQ
  rw [if_pos hv]
theorem val_zeros (k : Nat) (l : List UInt8) : val 10 0 (List.replicate k 48 ++ l) = val 10 0 l := by
  induction k with
  | zero => rfl
  | succ k ih => rw [List.replicate_succ, List.cons_append, val_cons]; exact ih
theorem num_digits (k v : Nat) (hv : v ≤ 9223372036854775807) : ¬ List.replicate k 48 ++ dg 10 v = [] ∧ (List.replicate k 48 ++ dg 10 v).all (dig 10) = true ∧ val 10 0 (List.replicate k 48 ++ dg 10 v) = v := by
  have hb : v < 10 ^ 64 := big64 10 v (by omega) hv
  refine ⟨fun e => ?_, ?_, ?_⟩
  · have := dg_pos 10 (by omega) v hb
    have h := congrArg List.length e
    simp at h; rw [h.2] at this; simp at this
  · rw [List.all_append, Bool.and_eq_true]
    refine ⟨List.all_eq_true.2 fun x hx => by rw [List.eq_of_mem_replicate hx]; decide, List.all_eq_true.2 fun x hx => dg_dig 10 (by omega) (by omega) v hb x hx⟩
  · rw [val_zeros]; exact dg_val 10 (by omega) (by omega) v hb
end Go.Proofs.YtmlnnbinbbmmhaaDoor
