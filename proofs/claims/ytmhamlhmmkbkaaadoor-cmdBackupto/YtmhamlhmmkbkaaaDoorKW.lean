
-- readKeyWords, readKeys: the key words.
import Derived.Test.YtmhamlhmmkbkaaaDoorOP
namespace Go.Proofs.YtmhamlhmmkbkaaaDoor
open Go.ChangeShapes Go.WideShapes Go.ChangeAt Go.RowKit Go.MapKept Go.Shelf
set_option linter.unusedVariables false
set_option maxRecDepth 100000
set_option linter.unusedSimpArgs false
theorem foldG_app (st : Rd → UInt8 → Sum Int Rd) (m : List (List UInt8)) (l : List (List UInt8)) : ∀ r : Rd, foldG st r (l ++ m) = match foldG st r l with
    | .inl e => .inl e
    | .inr r' => foldG st r' m := by
  induction l with
  | nil => intro r; rfl
  | cons x xs ih =>
    intro r
    rw [List.cons_append, foldG.eq_2, foldG.eq_2]
    cases stG st r x with
    | inl e => rfl
    | inr r' => exact ih r'
abbrev KwR := Sum (List UInt8 × Int) (Rd × List ByteArray)
def kwR (st : Rd → UInt8 → Sum Int Rd) (r : Rd) (L : List ByteArray) : KwR := match foldG st r (dashL L) with
  | .inl x => .inl x
  | .inr r' => .inr (r', L.dropWhile dsh)
theorem kwR_nil (st : Rd → UInt8 → Sum Int Rd) (r : Rd) : kwR st r [] = .inr (r, []) := rfl
theorem kwR_no (st : Rd → UInt8 → Sum Int Rd) (r : Rd) (x : ByteArray) (t : List ByteArray) (h : dsh x = false) : kwR st r (x :: t) = .inr (r, x :: t) := by
  unfold kwR dashL
  rw [List.takeWhile_cons, h, List.dropWhile_cons, h]
  rfl
theorem kwR_yes (st : Rd → UInt8 → Sum Int Rd) (r : Rd) (x : ByteArray) (t : List ByteArray) (h : dsh x = true) : kwR st r (x :: t) = match foldG st r (letL ((byL x).drop 1)) with
    | .inl e => .inl e
    | .inr r' => kwR st r' t := by
  unfold kwR dashL
  rw [List.takeWhile_cons, h, List.dropWhile_cons, h]
  simp only [if_true, List.flatMap_cons]
  rw [foldG_app]
  cases foldG st r (letL ((byL x).drop 1)) with
  | inl e => rfl
  | inr r' => rfl
def KwSt (st : Rd → UInt8 → Sum Int Rd) (w0 : World) (b : Nat) (pr : Int) (anc arc : ByteArray) (O : KwR) (s : ByteArray) (t : Bool) (w : World) : Prop :=
  ∃ r1 L1, Ln w0 b w pr r1 anc arc L1 ∧ ((t = false ∧ O = .inr (r1, L1)) ∨ (t = true ∧ dsh s = true ∧ O = kwR st r1 (s :: L1)))
theorem next_key (st : Rd → UInt8 → Sum Int Rd) (O : KwR) (w0 : World) (b : Nat) (w : World) (pr : Int) (r : Rd) (anc arc : ByteArray) (L : List ByteArray) (h : Ln w0 b w pr r anc arc L) (hO : O = kwR st r L) :
    Calls Tryd.prog 32 #[.pointer (some ⟨b, 0, none⟩), .func (.func 29) #[] #[]] w fun e w' => ∃ s t, e = .returned (.tuple #[.string s, .bool t]) ∧ KwSt st w0 b pr anc arc O s t w' ∧ Kq b w w' ∧ lenOf w' b + okN (.bool t) ≤ L.length := by
  cases L with
  | nil =>
    refine (next_nil_dsh w0 b w pr r anc arc h).mono ?_
    rintro e w' ⟨rfl, hw⟩
    rw [hw]
    exact ⟨_, _, rfl, ⟨r, [], h, .inl ⟨rfl, hO⟩⟩, Kq.id _ _, by rw [h.len]; exact Nat.le_refl _⟩
  | cons x t =>
    cases hp : dsh x with
    | false =>
      refine (next_no_dsh w0 b w pr r anc arc x t h hp).mono ?_
      rintro e w' ⟨rfl, hw⟩
      rw [hw]
      refine ⟨_, _, rfl, ⟨r, x :: t, h, .inl ⟨rfl, ?_⟩⟩, Kq.id _ _, by rw [h.len]; exact Nat.le_refl _⟩
      rw [hO, kwR_no st r x t hp]
    | true =>
      refine (next_yes_dsh w0 b w pr r anc arc x t h hp).mono ?_
      rintro e w' ⟨rfl, l1, k1⟩
      exact ⟨_, _, rfl, ⟨r, t, l1, .inr ⟨rfl, hp, hO⟩⟩, k1, by rw [l1.len]; exact Nat.le_refl _⟩
def KwPost (w0 : World) (b : Nat) (w : World) (pr : Int) (anc arc : ByteArray) (s : KwR) (e : Ending) (w' : World) : Prop := match s with
  | .inl x => e = .returned (.tuple #[.string (byB x.1), .int .i64 x.2]) ∧ x.2 ≠ 0 ∧ Below w0.heap.size w0 w'
  | .inr q => e = .returned (.tuple #[.string ⟨#[]⟩, .int .i64 0]) ∧ Ln w0 b w' pr q.1 anc arc q.2 ∧ Kq b w w'
theorem dsh_size {s : ByteArray} (h : dsh s = true) : 1 < s.size := by
  by_cases h1 : 1 < s.size
  · exact h1
  · rw [dsh_short (by omega)] at h; cases h
set_option maxHeartbeats 4000000 in
theorem keyWords_c (HD : DrOk) {st : Rd → UInt8 → Sum Int Rd} {P : Prs} (HA : ActOk st P) (w0 : World) (b m : Nat) (w : World) (pr : Int) (r : Rd) (anc arc : ByteArray) (L : List ByteArray)
    (hT : TabU w0) (h : Ln w0 b w pr r anc arc L) (hM : MapAt (.int .i32) w m P) :
    Calls Tryd.prog 25 #[.pointer (some ⟨b, 0, none⟩), .map (some m)] w (KwPost w0 b w pr anc arc (kwR st r L)) := by
  have hmb : m ≠ b := by obtain ⟨_, _, _, _, h2⟩ := h.box; exact hM.ne_cells h2
  have hml := hM.lt
  obtain ⟨O, hO⟩ : ∃ O, O = kwR st r L := ⟨_, rfl⟩
  rw [← hO]
  have H0 := hidK (next_key st O w0 b w pr r anc arc L h hO)
  have HM := hidK hM
  have HT := hidK hT
  have HAA := hidK HA
  have HDD := hidK HD
  clear hO h hM hT HA HD
  go_enter Tryd.func25, Tryd.ntmps25
  go_wp2_with (go_at_call 32; refine H0.out.mono ?_; rintro e w1 ⟨s1, t1, rfl, hst1, k1, _⟩)
  go_loopw [6, 7] (fun vs vt wx => ∃ s t, vs = .string s ∧ vt = .bool t ∧ KwSt st w0 b pr anc arc O s t wx ∧ Kq b w wx) (fun vs vt wx => lenOf wx b + okN vt)
  case atStart => exact ⟨s1, t1, rfl, rfl, hst1, k1⟩
  case round =>
    clear H0 hst1 k1
    obtain ⟨s, t, rfl, rfl, ⟨r1, L1, hln, hor⟩, hkq⟩ := hrel
    have HLN := hidK hln
    have HLE := hidK hln.len
    rcases hor with ⟨rfl, ho⟩ | ⟨rfl, hds, ho⟩
    · have HO := hidK ho
      clear ho hln
      go_wp2
      go_ret2
      rw [HO.out]
      exact ⟨rfl, HLN.out, hkq⟩
    · have hsz := dsh_size hds
      rw [kwR_yes st r1 s L1 hds] at ho
      have h1 : (1 : Int) ≤ (s.size : Int) := by omega
      have hcut := cutB s 1
      have HL := letters_c HDD.out HAA.out w0 b m wr pr r1 anc arc L1 (s.extract 1 s.size) HT.out hln (HM.out.keep (hkq.block m hmb hml))
      rw [hcut] at HL
      have HNX : Hid (∀ r2 W, Ln w0 b W pr r2 anc arc L1 → O = kwR st r2 L1 → Calls Tryd.prog 32 #[.pointer (some ⟨b, 0, none⟩), .func (.func 29) #[] #[]] W fun e w' => ∃ s t, e = .returned (.tuple #[.string s, .bool t]) ∧ KwSt st w0 b pr anc arc O s t w' ∧ Kq b W w' ∧ lenOf w' b + okN (.bool t) ≤ L1.length) := fun r2 W h1 h2 => next_key st O w0 b W pr r2 anc arc L1 h1 h2
      clear hln hds hcut
      cases hf : foldG st r1 (letL ((byL s).drop 1)) with
      | inl x =>
        rw [hf] at HL ho
        have HLL := hidK HL
        have HO := hidK ho
        clear HL ho hf
        go_wp2_with (go_at_call 36; refine HLL.out.mono ?_; rintro e w2 ⟨rfl, hne, hb2⟩; have hz : (x.2 != 0) = true := by simp [hne])
        go_ret2
        rw [HO.out]
        exact ⟨rfl, hne, hb2⟩
      | inr r2 =>
        rw [hf] at HL ho
        have HLL := hidK HL
        have HO := hidK ho
        clear HL ho hf
        go_wp2_with (first
          | (go_at_call 36; refine HLL.out.mono ?_; rintro e w2 ⟨rfl, l2, q1⟩)
          | (go_at_call 32; refine (HNX.out _ _ l2 HO.out).mono ?_; rintro e w2 ⟨s2, t2, rfl, hst2, k2, hle⟩))
        go_roundw
        case rel => exact ⟨s2, t2, rfl, rfl, hst2, (hkq.two q1).two k2⟩
        case measure => have := HLE.out; rw [this]; simp only [okN] at hle ⊢; omega
end Go.Proofs.YtmhamlhmmkbkaaaDoor
