
-- Plain mathematics: what is written is read back.
import Derived.Test.YtmppfpkcnhcfbabDoorN1
namespace Go.Proofs.YtmppfpkcnhcfbabDoor
open Go.ChangeShapes Go.WideShapes Go.ChangeAt Go.RowKit
set_option linter.unusedVariables false
set_option maxRecDepth 100000

theorem fine_of (F : List UInt8) (so v : Int) (nm : ByteArray) (hp : ¬ F = []) (h16 : F.length ≤ 16) (hl : ¬ F.getLast? = some 32) (ht : Told F so v nm) : Fine (strL F) so v nm := by
  have hz := strL_size F
  have hpos : 1 ≤ F.length := by cases F with
    | nil => exact absurd rfl hp
    | cons a r => simp
  refine ⟨by omega, by omega, fun h e => hl ?_, ?_⟩
  · have h1 := at_some (strL F) ((strL F).size - 1) h
    rw [strL_data] at h1
    rw [List.getLast?_eq_getElem?, ← hz, h1]
    congr 1
    exact UInt8.toNat_inj.1 e
  · rw [strL_data]
    unfold Told at ht
    rw [if_neg (by omega)] at ht; exact ht
theorem last_digit (a d : List UInt8) (h0 : ¬ d = []) (hd : d.all (dig 10) = true) : ¬ (a ++ d).getLast? = some 32 := by
  rw [List.getLast?_append, List.getLast?_eq_some_getLast h0, Option.some_or]
  intro h
  injection h with h
  have := List.all_eq_true.1 hd _ (List.getLast_mem h0)
  rw [h] at this; revert this; decide
theorem fine_short (x : List UInt8) (hv : validL x = true) (h15 : x.length ≤ 15) : Fine (strL (x ++ [47])) 4 0 (strL x) := by
  refine fine_of _ _ _ _ (by simp) (by rw [List.length_append]; simp; omega) ?_ (told_4 x hv)
  rw [List.getLast?_append, show ([47] : List UInt8).getLast? = some 47 from rfl, Option.some_or]; decide
theorem fine_ref (t : Nat) (ht : t ≤ 9000000) : Fine (strL (47 :: dg 10 t)) 5 t ⟨#[]⟩ := by
  obtain ⟨h1, h2, h3⟩ := num_digits 0 t (by omega)
  rw [List.replicate_zero, List.nil_append] at h1 h2 h3
  have hl : (dg 10 t).length ≤ 7 := (dg_len 10 (by omega) 7 t (big64 10 t (by omega) (by omega)) (by omega)).2 (by omega)
  have h5 := told_5 _ h1 h2
  rw [h3] at h5
  exact fine_of _ _ _ _ (by simp) (by simp; omega) (last_digit [47] _ h1 h2) h5
theorem fine_long (t : Nat) (ht : t ≤ 9000000) : Fine (strL ([35, 49, 47] ++ dg 10 t)) 7 t ⟨#[]⟩ := by
  obtain ⟨h1, h2, h3⟩ := num_digits 0 t (by omega)
  rw [List.replicate_zero, List.nil_append] at h1 h2 h3
  have hl : (dg 10 t).length ≤ 7 := (dg_len 10 (by omega) 7 t (big64 10 t (by omega) (by omega)) (by omega)).2 (by omega)
  have h5 := told_7 _ h1 h2
  rw [h3] at h5
  exact fine_of _ _ _ _ (by simp) (by simp; omega) (last_digit [35, 49, 47] _ h1 h2) h5
theorem fine_plain (x : List UInt8) (hv : validL x = true) (ho : ownB x = true) : Fine (strL x) 6 0 (strL x) := by
  unfold ownB at ho
  simp only [Bool.and_eq_true, decide_eq_true_eq, Bool.not_eq_true', decide_eq_false_iff_not] at ho
  refine fine_of _ _ _ _ (valid_ne x hv) ho.1 ?_ (told_6 x hv ho.2.2)
  intro h
  exact ho.2.1 (List.mem_of_getLast? h)
/-- a name in the table is found at its place -/
theorem look_back (k : Int) (L : List (List UInt8)) (j : Nat) (x : List UInt8) (h : L[j]? = some x) (hv : validL x = true) (t : Nat) (ht : (tabL k (L.take j)).length = t) (htb : tabOf k x = x ++ [47, 10]) : lookL (tabL k L) t = (strL x, 0) := by
  have hp := tab_piece k L j x h t ht
  rw [htb] at hp
  have hlen : t + (x.length + 2) ≤ (tabL k L).length := by
    have h1 := tab_mono k L (j + 1)
    rw [tab_next k L j x h, htb, List.length_append, List.length_append, ht] at h1
    simpa using h1
  have hget : ∀ i, (tabL k L)[t + i]? = (x ++ [47, 10] ++ tabL k (L.drop (j + 1)))[i]? := fun i => by
    rw [← hp, List.getElem?_drop]
  have hs : firstSep (tabL k L) t = some (t + x.length) := by
    refine firstSep_at _ _ _ (by omega) ⟨?_, ?_⟩ fun i hi hl hsep => ?_
    · rw [hget, List.append_assoc, List.getElem?_append_right (Nat.le_refl _), Nat.sub_self]; rfl
    · rw [Nat.add_assoc, hget, List.append_assoc, List.getElem?_append_right (by omega), show x.length + 1 - x.length = 1 from by omega]; rfl
    · have h1 := hsep.1
      rw [show i = t + (i - t) from by omega, hget, List.append_assoc, List.getElem?_append_left (by omega)] at h1
      exact (valid_no_slash x hv _ (List.mem_of_getElem? h1)).1 rfl
  unfold lookL
  rw [if_neg (by omega), Int.toNat_natCast, hs]
  simp only []
  rw [show t + x.length - t = x.length from by omega, hp, List.append_assoc, List.take_left' rfl, if_pos hv]
theorem trim_valid (x : List UInt8) (hv : validL x = true) : trimZ x = x := by
  unfold trimZ Lib.trimRightB
  cases hr : x.reverse with
  | nil => rw [List.reverse_eq_nil_iff] at hr; rw [hr]; rfl
  | cons c r =>
    have hc : c ∈ x := by rw [← List.mem_reverse, hr]; simp
    have h0 := (valid_no_slash x hv c hc).2
    rw [List.dropWhile_cons_of_neg (by simpa using h0), ← hr, List.reverse_reverse]
/-- a text ahead of the data is parted from them -/
theorem inline_back (x data : List UInt8) (hv : validL x = true) : inlineL (x ++ data) x.length = (strL x, strL data, 0) := by
  unfold inlineL
  rw [if_neg (by rw [List.length_append]; omega), Int.toNat_natCast, List.take_left' rfl, List.drop_left' rfl, trim_valid x hv, if_pos hv]
end Go.Proofs.YtmppfpkcnhcfbabDoor
