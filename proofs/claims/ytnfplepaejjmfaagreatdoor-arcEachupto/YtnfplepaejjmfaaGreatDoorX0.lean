
-- Plain mathematics: a header, read and written.
import Derived.Test.YtnfplepaejjmfaaGreatDoorFld
import Derived.Lib.TrimByte
namespace Go.Proofs.YtnfplepaejjmfaaGreatDoor
set_option linter.unusedVariables false
set_option maxRecDepth 100000

structure Hd where
  date : Int
  uid : Int
  gid : Int
  mode : Int
  name : ByteArray
  size : Int
def hd0 : Hd := ⟨0, 0, 0, 0, ByteArray.empty, 0⟩

/-- the columns from a on, n of them -/
def fld (H : List UInt8) (a n : Nat) : List UInt8 := (H.drop a).take n
theorem fld_len (H : List UInt8) (a n : Nat) (h : a + n ≤ H.length) : (fld H a n).length = n := by
  unfold fld; rw [List.length_take, List.length_drop]; omega
theorem fld_mid (A X B : List UInt8) (a n : Nat) (ha : A.length = a) (hn : X.length = n) : fld (A ++ (X ++ B)) a n = X := by
  unfold fld; rw [← ha, List.drop_left, ← hn, List.take_left]
theorem fld_sub (b : List UInt8) (at0 a n m : Nat) (h : a + n ≤ m) : fld ((b.drop at0).take m) a n = fld b (at0 + a) n := by
  unfold fld
  rw [List.drop_take, List.take_take, List.drop_drop, Nat.min_eq_left (by omega)]

/-- the name field without the blanks at its end -/
def trimN (l : List UInt8) : List UInt8 := Lib.trimRightB l 32
/-- a name that the name field holds -/
def noB (l : List UInt8) : Prop := ∀ b, 0 < l.length → l[l.length - 1]? = some b → ¬ b = 32
theorem trimN_is (l : List UInt8) (k : Nat) (hk : k ≤ l.length) (h1 : ∀ (j : Nat) b, k ≤ j → l[j]? = some b → b = 32) (h2 : ∀ b, 0 < k → l[k - 1]? = some b → ¬ b = 32) : trimN l = l.take k :=
  Lib.trimRightB_take l 32 k hk h1 h2
theorem trim_at (l : List UInt8) : ∃ k, k ≤ l.length ∧ (∀ (j : Nat) b, k ≤ j → l[j]? = some b → b = 32) ∧ (∀ b, 0 < k → l[k - 1]? = some b → ¬ b = 32) := by
  have go : ∀ k, k ≤ l.length → (∀ (j : Nat) b, k ≤ j → l[j]? = some b → b = 32) → ∃ k, k ≤ l.length ∧ (∀ (j : Nat) b, k ≤ j → l[j]? = some b → b = 32) ∧ (∀ b, 0 < k → l[k - 1]? = some b → ¬ b = 32) := by
    intro k
    induction k with
    | zero => intro h h1; exact ⟨0, h, h1, fun b h0 => absurd h0 (Nat.lt_irrefl _)⟩
    | succ k ih =>
      intro h h1
      by_cases e : l[k]? = some 32
      · refine ih (by omega) (fun j b hj hb => ?_)
        by_cases ej : j = k
        · subst ej; rw [e] at hb; injection hb with hb; exact hb.symm
        · exact h1 j b (by omega) hb
      · exact ⟨k + 1, h, h1, fun b _ hb hc => e (by rw [Nat.add_sub_cancel] at hb; rw [hb, hc])⟩
  exact go l.length (Nat.le_refl _) (fun j b hj hb => by rw [List.getElem?_eq_none hj] at hb; cases hb)
theorem trimN_len (l : List UInt8) : (trimN l).length ≤ l.length := by
  obtain ⟨k, hk, h1, h2⟩ := trim_at l
  rw [trimN_is l k hk h1 h2, List.length_take]; omega
theorem trimN_noB (l : List UInt8) : noB (trimN l) := by
  obtain ⟨k, hk, h1, h2⟩ := trim_at l
  rw [trimN_is l k hk h1 h2]
  intro b hb hl
  rw [List.length_take] at hb hl
  rw [Nat.min_eq_left hk] at hb hl
  rw [List.getElem?_take_of_lt (by omega)] at hl
  exact h2 b hb hl
theorem trimN_take (l : List UInt8) : trimN l = l.take (trimN l).length ∧ ∀ (j : Nat) b, (trimN l).length ≤ j → l[j]? = some b → b = 32 := by
  obtain ⟨k, hk, h1, h2⟩ := trim_at l
  have e := trimN_is l k hk h1 h2
  have el : (trimN l).length = k := by rw [e, List.length_take]; omega
  rw [el]; exact ⟨e, h1⟩
theorem trimN_pad (l : List UInt8) (k : Nat) (h : noB l) : trimN (l ++ List.replicate k 32) = l := by
  rw [trimN_is (l ++ List.replicate k 32) l.length (by simp) (fun j b hj hb => ?_) (fun b h0 hb => ?_), List.take_left]
  · rw [List.getElem?_append_right hj] at hb
    have := List.mem_of_getElem? hb
    exact (List.mem_replicate.1 this).2
  · rw [List.getElem?_append_left (by omega)] at hb
    exact h b h0 hb

/-- the five numbers' fields -/
abbrev numOk (H : List UInt8) : Prop :=
  (rd 10 (fld H 16 12)).2 = 0 ∧ (rd 10 (fld H 28 6)).2 = 0 ∧ (rd 10 (fld H 34 6)).2 = 0 ∧ (rd 8 (fld H 40 8)).2 = 0 ∧ (rd 10 (fld H 48 10)).2 = 0
def hdOf (H : List UInt8) : Hd :=
  ⟨((rd 10 (fld H 16 12)).1 : Int), ((rd 10 (fld H 28 6)).1 : Int), ((rd 10 (fld H 34 6)).1 : Int), ((rd 8 (fld H 40 8)).1 : Int), strL (trimN (fld H 0 16)), ((rd 10 (fld H 48 10)).1 : Int)⟩
/-- what Parse answers of 60 bytes -/
def parseH (H : List UInt8) : Hd × Int :=
  if fld H 58 2 = [96, 10] then if numOk H then (hdOf H, 0) else (hd0, 72) else (hd0, 71)
def parseAt (b : ByteArray) (i : Int) : Hd × Int :=
  if i < 0 ∨ (b.size : Int) - 60 < i then (hd0, 70) else parseH (fld b.data.toList i.toNat 60)

/-- a name that Format takes -/
abbrev named (l : List UInt8) : Prop := l.length ≤ 16 ∧ ¬ l.getLast? = some 32
abbrev fitN (B : Nat) (v : Int) (w : Nat) : Prop := 0 ≤ v ∧ (dg B v.toNat).length ≤ w
abbrev fitsH (h : Hd) : Prop := fitN 10 h.date 12 ∧ fitN 10 h.uid 6 ∧ fitN 10 h.gid 6 ∧ fitN 8 h.mode 8 ∧ fitN 10 h.size 10
def nameF (l : List UInt8) : List UInt8 := l ++ List.replicate (16 - l.length) 32
def formL (h : Hd) : List UInt8 :=
  nameF h.name.data.toList ++ (pad 10 h.date 12 ++ (pad 10 h.uid 6 ++ (pad 10 h.gid 6 ++ (pad 8 h.mode 8 ++ (pad 10 h.size 10 ++ [96, 10])))))
def formatH (h : Hd) : ByteArray × Int :=
  if named h.name.data.toList then if fitsH h then (strL (formL h), 0) else (ByteArray.empty, 11) else (ByteArray.empty, 80)

theorem getLast_noB (l : List UInt8) : noB l ↔ ¬ l.getLast? = some 32 := by
  rw [List.getLast?_eq_getElem?]
  constructor
  · intro h e
    have hl : 0 < l.length := by
      cases l with
      | nil => simp at e
      | cons => simp
    exact h 32 hl e rfl
  · intro h b hb e hc; rw [hc] at e; exact h e
theorem putErr_fit (B : Nat) (v : Int) (w : Nat) (h1 : 1 ≤ w) (h2 : w ≤ 20) : putErr B v w = if fitN B v w then 0 else 11 := by
  unfold putErr
  rw [if_neg (by omega)]
  by_cases h0 : v < 0
  · rw [if_pos h0, if_neg (fun h : fitN B v w => by have := h.1; omega)]
  · rw [if_neg h0]
    by_cases hl : (w : Int) < (dg B v.toNat).length
    · rw [if_pos hl, if_neg (fun h : fitN B v w => by have := h.2; omega)]
    · rw [if_neg hl, if_pos (show fitN B v w from ⟨by omega, by omega⟩)]
theorem putText_fit (B : Nat) (v : Int) (w : Nat) (h1 : 1 ≤ w) (h2 : w ≤ 20) : putText B v w = if fitN B v w then strL (pad B v w) else ByteArray.empty := by
  unfold putText
  rw [if_neg (by omega)]
  by_cases h0 : v < 0
  · rw [if_pos h0, if_neg (fun h : fitN B v w => by have := h.1; omega)]
  · rw [if_neg h0]
    by_cases hl : (w : Int) < (dg B v.toNat).length
    · rw [if_pos hl, if_neg (fun h : fitN B v w => by have := h.2; omega)]
    · rw [if_neg hl, if_pos (show fitN B v w from ⟨by omega, by omega⟩)]
theorem pad_lenI (B : Nat) (v : Int) (w : Nat) (h : fitN B v w) : (pad B v w).length = w := by
  unfold fitN at h
  unfold pad; rw [Int.toNat_natCast, List.length_append, List.length_replicate]; omega
theorem pad_readsI (B : Nat) (v : Int) (w : Nat) (hB : B = 8 ∨ B = 10) (hv : v ≤ 9223372036854775807) (h : fitN B v w) : rd B (pad B v w) = (v.toNat, 0) := by
  unfold fitN at h
  have h2 := pad_reads B v.toNat w hB (by omega)
  rwa [show ((v.toNat : Nat) : Int) = v from by omega] at h2
theorem nameF_len (l : List UInt8) (h : l.length ≤ 16) : (nameF l).length = 16 := by
  unfold nameF; rw [List.length_append, List.length_replicate]; omega
/-- a field of so many columns holds a number of no more digits -/
theorem rd_lt (B : Nat) (l : List UInt8) : (rd B l).2 = 0 → (rd B l).1 = val B 0 (l.take (cnt B l)) := by
  unfold rd; split
  · split
    · intro _; rfl
    · intro h; cases h
  · intro h; cases h
theorem cnt_all (B : Nat) (l : List UInt8) : ∀ c ∈ l.take (cnt B l), dig B c = true := by
  intro c hc
  obtain ⟨j, hj, e⟩ := List.mem_iff_getElem.1 hc
  rw [List.length_take] at hj
  obtain ⟨c', h1, h2⟩ := cnt_dig B l j (by omega)
  rw [List.getElem_take] at e
  rw [List.getElem?_eq_getElem (by omega), e] at h1
  injection h1 with h1
  rw [h1]; exact h2
theorem rd_fit (B : Nat) (l : List UInt8) (hB : B = 8 ∨ B = 10) (hl : 1 ≤ l.length) (h20 : l.length ≤ 12) (h : (rd B l).2 = 0) : fitN B ((rd B l).1 : Int) l.length := by
  have h1 := rd_lt B l h
  have h2 := val_lt B (l.take (cnt B l)) (cnt_all B l)
  have h3 : B ^ (l.take (cnt B l)).length ≤ B ^ l.length := Nat.pow_le_pow_right (by omega) (by rw [List.length_take]; omega)
  have h4 : (rd B l).1 < B ^ l.length := by rw [h1]; exact Nat.lt_of_lt_of_le h2 h3
  have h5 : B ^ l.length ≤ B ^ 64 := Nat.pow_le_pow_right (by omega) (by omega)
  unfold fitN
  rw [Int.toNat_natCast]
  exact ⟨by omega, (dg_len B (by omega) l.length _ (Nat.lt_of_lt_of_le h4 h5) hl).2 h4⟩
/-- a byte that is neither a digit nor a blank spoils a field -/
theorem rd_spoilt (B : Nat) (l : List UInt8) (j : Nat) (c : UInt8) (hj : l[j]? = some c) (hd : dig B c = false) (hb : ¬ c.toNat = 32) : ¬ (rd B l).2 = 0 := by
  have hc : cnt B l ≤ j := by
    by_cases h : cnt B l ≤ j
    · exact h
    · obtain ⟨c', h1, h2⟩ := cnt_dig B l j (by omega)
      rw [hj] at h1; injection h1 with h1; rw [← h1, hd] at h2; cases h2
  have hf : blank (l.drop (cnt B l)) = false := by
    cases e : blank (l.drop (cnt B l))
    · rfl
    · unfold blank at e
      rw [List.all_eq_true] at e
      have hm : c ∈ l.drop (cnt B l) := by
        refine List.mem_of_getElem? (i := j - cnt B l) ?_
        rw [List.getElem?_drop, show cnt B l + (j - cnt B l) = j from by omega]; exact hj
      have := e c hm
      simp at this; exact absurd this hb
  unfold rd; rw [hf, if_neg (by decide)]; decide

theorem formL_len (h : Hd) (hn : named h.name.data.toList) (hf : fitsH h) : (formL h).length = 60 := by
  obtain ⟨f1, f2, f3, f4, f5⟩ := hf
  unfold formL
  simp only [List.length_append, nameF_len _ hn.1]
  rw [show pad 10 h.date 12 = pad 10 h.date ((12 : Nat) : Int) from rfl, show pad 10 h.uid 6 = pad 10 h.uid ((6 : Nat) : Int) from rfl, show pad 10 h.gid 6 = pad 10 h.gid ((6 : Nat) : Int) from rfl, show pad 8 h.mode 8 = pad 8 h.mode ((8 : Nat) : Int) from rfl, show pad 10 h.size 10 = pad 10 h.size ((10 : Nat) : Int) from rfl]
  rw [pad_lenI _ _ _ f1, pad_lenI _ _ _ f2, pad_lenI _ _ _ f3, pad_lenI _ _ _ f4, pad_lenI _ _ _ f5]; rfl
/-- the columns of a header that is put together -/
theorem cols (N D U G M S T : List UInt8) (hN : N.length = 16) (hD : D.length = 12) (hU : U.length = 6) (hG : G.length = 6) (hM : M.length = 8) (hS : S.length = 10) (hT : T.length = 2) :
    fld (N ++ (D ++ (U ++ (G ++ (M ++ (S ++ T)))))) 0 16 = N ∧ fld (N ++ (D ++ (U ++ (G ++ (M ++ (S ++ T)))))) 16 12 = D ∧ fld (N ++ (D ++ (U ++ (G ++ (M ++ (S ++ T)))))) 28 6 = U ∧ fld (N ++ (D ++ (U ++ (G ++ (M ++ (S ++ T)))))) 34 6 = G ∧ fld (N ++ (D ++ (U ++ (G ++ (M ++ (S ++ T)))))) 40 8 = M ∧ fld (N ++ (D ++ (U ++ (G ++ (M ++ (S ++ T)))))) 48 10 = S ∧ fld (N ++ (D ++ (U ++ (G ++ (M ++ (S ++ T)))))) 58 2 = T := by
  refine ⟨?_, ?_, ?_, ?_, ?_, ?_, ?_⟩
  · exact fld_mid [] N _ 0 16 rfl hN
  · exact fld_mid N D _ 16 12 hN hD
  · have := fld_mid (N ++ D) U (G ++ (M ++ (S ++ T))) 28 6 (by simp [hN, hD]) hU
    simpa only [List.append_assoc] using this
  · have := fld_mid (N ++ (D ++ U)) G (M ++ (S ++ T)) 34 6 (by simp [hN, hD, hU]) hG
    simpa only [List.append_assoc] using this
  · have := fld_mid (N ++ (D ++ (U ++ G))) M (S ++ T) 40 8 (by simp [hN, hD, hU, hG]) hM
    simpa only [List.append_assoc] using this
  · have := fld_mid (N ++ (D ++ (U ++ (G ++ M)))) S T 48 10 (by simp [hN, hD, hU, hG, hM]) hS
    simpa only [List.append_assoc] using this
  · have := fld_mid (N ++ (D ++ (U ++ (G ++ (M ++ S))))) T [] 58 2 (by simp [hN, hD, hU, hG, hM, hS]) hT
    simpa only [List.append_assoc, List.append_nil] using this
def HdIn (h : Hd) : Prop := h.date ≤ 9223372036854775807 ∧ h.uid ≤ 9223372036854775807 ∧ h.gid ≤ 9223372036854775807 ∧ h.mode ≤ 9223372036854775807 ∧ h.size ≤ 9223372036854775807
theorem strL_of (b : ByteArray) : strL b.data.toList = b := by apply ByteArray.ext; simp [strL]
/-- headers come back -/
theorem parse_format (h : Hd) (hI : HdIn h) (hn : named h.name.data.toList) (hf : fitsH h) : parseH (formL h) = (h, 0) := by
  obtain ⟨f1, f2, f3, f4, f5⟩ := hf
  obtain ⟨i1, i2, i3, i4, i5⟩ := hI
  obtain ⟨c0, c1, c2, c3, c4, c5, c6⟩ := cols (nameF h.name.data.toList) (pad 10 h.date 12) (pad 10 h.uid 6) (pad 10 h.gid 6) (pad 8 h.mode 8) (pad 10 h.size 10) [96, 10] (nameF_len _ hn.1) (pad_lenI _ _ 12 f1) (pad_lenI _ _ 6 f2) (pad_lenI _ _ 6 f3) (pad_lenI _ _ 8 f4) (pad_lenI _ _ 10 f5) rfl
  have r1 := pad_readsI 10 h.date 12 (by omega) i1 f1
  have r2 := pad_readsI 10 h.uid 6 (by omega) i2 f2
  have r3 := pad_readsI 10 h.gid 6 (by omega) i3 f3
  have r4 := pad_readsI 8 h.mode 8 (by omega) i4 f4
  have r5 := pad_readsI 10 h.size 10 (by omega) i5 f5
  have hN : trimN (nameF h.name.data.toList) = h.name.data.toList := trimN_pad _ _ ((getLast_noB _).2 hn.2)
  have ok : numOk (formL h) := by
    unfold numOk formL
    rw [c1, c2, c3, c4, c5]
    exact ⟨congrArg Prod.snd r1, congrArg Prod.snd r2, congrArg Prod.snd r3, congrArg Prod.snd r4, congrArg Prod.snd r5⟩
  have e : hdOf (formL h) = h := by
    unfold hdOf formL
    rw [c0, c1, c2, c3, c4, c5, hN, strL_of]
    rw [show rd 10 (pad 10 h.date 12) = _ from r1, show rd 10 (pad 10 h.uid 6) = _ from r2, show rd 10 (pad 10 h.gid 6) = _ from r3, show rd 8 (pad 8 h.mode 8) = _ from r4, show rd 10 (pad 10 h.size 10) = _ from r5]
    show Hd.mk ((h.date.toNat : Nat) : Int) ((h.uid.toNat : Nat) : Int) ((h.gid.toNat : Nat) : Int) ((h.mode.toNat : Nat) : Int) h.name ((h.size.toNat : Nat) : Int) = h
    rw [Int.toNat_of_nonneg f1.1, Int.toNat_of_nonneg f2.1, Int.toNat_of_nonneg f3.1, Int.toNat_of_nonneg f4.1, Int.toNat_of_nonneg f5.1]
  unfold parseH
  rw [show fld (formL h) 58 2 = [96, 10] from c6, if_pos rfl, if_pos ok, e]
theorem numOk_fits (H : List UInt8) (hl : H.length = 60) (h : numOk H) : fitsH (hdOf H) ∧ named (hdOf H).name.data.toList := by
  obtain ⟨h1, h2, h3, h4, h5⟩ := h
  have l1 := fld_len H 16 12 (by omega)
  have l2 := fld_len H 28 6 (by omega)
  have l3 := fld_len H 34 6 (by omega)
  have l4 := fld_len H 40 8 (by omega)
  have l5 := fld_len H 48 10 (by omega)
  have g1 := rd_fit 10 (fld H 16 12) (by omega) (by omega) (by omega) h1
  have g2 := rd_fit 10 (fld H 28 6) (by omega) (by omega) (by omega) h2
  have g3 := rd_fit 10 (fld H 34 6) (by omega) (by omega) (by omega) h3
  have g4 := rd_fit 8 (fld H 40 8) (by omega) (by omega) (by omega) h4
  have g5 := rd_fit 10 (fld H 48 10) (by omega) (by omega) (by omega) h5
  rw [l1] at g1; rw [l2] at g2; rw [l3] at g3; rw [l4] at g4; rw [l5] at g5
  refine ⟨⟨g1, g2, g3, g4, g5⟩, ?_⟩
  show named (strL (trimN (fld H 0 16))).data.toList
  rw [strL_data]
  have := trimN_len (fld H 0 16)
  rw [fld_len H 0 16 (by omega)] at this
  exact ⟨this, (getLast_noB _).1 (trimN_noB _)⟩
end Go.Proofs.YtnfplepaejjmfaaGreatDoor
