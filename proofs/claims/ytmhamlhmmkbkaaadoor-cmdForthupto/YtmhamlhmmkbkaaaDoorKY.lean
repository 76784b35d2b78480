
-- readKeys: the key words of ar.
import Derived.Test.YtmhamlhmmkbkaaaDoorKW
namespace Go.Proofs.YtmhamlhmmkbkaaaDoor
open Go.ChangeShapes Go.WideShapes Go.ChangeAt Go.RowKit Go.MapKept Go.Shelf
set_option linter.unusedVariables false
set_option maxRecDepth 100000
set_option linter.unusedSimpArgs false
theorem trim_und (k : ByteArray) : (⟨(Lib.trimPrefix k.data.toList [45]).toArray⟩ : ByteArray) = byB (und k) := by
  unfold byB und byL
  generalize k.data.toList = l
  congr 2
  cases l with
  | nil => rfl
  | cons a t =>
    by_cases h : a = 45
    · subst h; simp [Lib.trimPrefix, Lib.hasPrefix]
    · have h2 : ((45 : UInt8) == a) = false := beq_eq_false_iff_ne.2 fun q => h q.symm
      simp [Lib.trimPrefix, Lib.hasPrefix, List.isPrefixOf, h2]
      split
      · next q => injection q with q1 q2; exact absurd q1 h
      · rfl
def keyG (r : Rd) : List ByteArray → Sum (ByteArray × Int) (Rd × List ByteArray)
  | [] => .inl (⟨#[]⟩, 151)
  | k :: t => match foldG stB r (letL (und k)) with
    | .inl x => .inl (byB x.1, x.2)
    | .inr r1 => match kwR stB r1 t with
      | .inl x => .inl (byB x.1, x.2)
      | .inr q => if opF q.1.op q.1.s = 0 then .inl (⟨#[]⟩, 151) else .inr q
def KyPost (w0 : World) (b : Nat) (w : World) (pr : Int) (anc arc : ByteArray) (s : Sum (ByteArray × Int) (Rd × List ByteArray)) (e : Ending) (w' : World) : Prop := match s with
  | .inl x => e = .returned (.tuple #[.string x.1, .int .i64 x.2]) ∧ x.2 ≠ 0 ∧ Below w0.heap.size w0 w'
  | .inr q => e = .returned (.tuple #[.string ⟨#[]⟩, .int .i64 0]) ∧ Ln w0 b w' pr q.1 anc arc q.2 ∧ Kq b w w'
theorem keys_nil (w0 : World) (b : Nat) (w : World) (pr : Int) (r : Rd) (anc arc : ByteArray) (h : Ln w0 b w pr r anc arc []) :
    Calls Tryd.prog 22 #[.pointer (some ⟨b, 0, none⟩)] w (KyPost w0 b w pr anc arc (keyG r [])) := by
  have HN := hidK (next_nil_anyW w0 b w pr r anc arc h)
  have HB := hidK h.bel
  clear h
  go_enter Tryd.func22, Tryd.ntmps22
  go_wp2_with (go_at_call 32; refine HN.out.mono ?_; rintro e w1 ⟨rfl, hw1⟩; rw [hw1]; clear hw1)
  go_ret2
  exact ⟨rfl, show (151 : Int) ≠ 0 from by decide, HB.out⟩
theorem keyG_1 {r : Rd} {k : ByteArray} {t : List ByteArray} {x : List UInt8 × Int} (h : foldG stB r (letL (und k)) = .inl x) : keyG r (k :: t) = .inl (byB x.1, x.2) := by
  unfold keyG; simp only [h]
theorem keyG_2 {r r1 : Rd} {k : ByteArray} {t : List ByteArray} {x : List UInt8 × Int} (h : foldG stB r (letL (und k)) = .inr r1) (h2 : kwR stB r1 t = .inl x) : keyG r (k :: t) = .inl (byB x.1, x.2) := by
  unfold keyG; simp only [h, h2]
theorem keyG_3 {r r1 : Rd} {k : ByteArray} {t : List ByteArray} {q : Rd × List ByteArray} (h : foldG stB r (letL (und k)) = .inr r1) (h2 : kwR stB r1 t = .inr q) (h3 : opF q.1.op q.1.s = 0) : keyG r (k :: t) = .inl (⟨#[]⟩, 151) := by
  unfold keyG; simp only [h, h2]; rw [if_pos h3]
theorem keyG_4 {r r1 : Rd} {k : ByteArray} {t : List ByteArray} {q : Rd × List ByteArray} (h : foldG stB r (letL (und k)) = .inr r1) (h2 : kwR stB r1 t = .inr q) (h3 : opF q.1.op q.1.s ≠ 0) : keyG r (k :: t) = .inr q := by
  unfold keyG; simp only [h, h2]; rw [if_neg h3]
theorem Ln.op0 {w0 : World} {b : Nat} {w : World} {pr : Int} {r : Rd} {anc arc : ByteArray} {L : List ByteArray} (h : Ln w0 b w pr r anc arc L) (ho : opF r.op r.s = 0) : w.cell? ⟨b, 2, none⟩ = some (.int .u8 0) := by
  obtain ⟨a, n, c, h1, h2⟩ := h.box
  have x3 : w.cell? ⟨b, 2, none⟩ = some (.int .u8 ((opF r.op r.s).toNat : Int)) := cell_rowK h2 2 _ rfl
  rw [ho] at x3
  exact x3
theorem opF_ne0 {x : UInt8} (h : x ≠ 0) : ((x.toNat : Int) == 0) = false := u8I h
set_option maxHeartbeats 4000000 in
theorem keys_c (HD : DrOk) (w0 : World) (b : Nat) (w : World) (pr : Int) (r : Rd) (anc arc : ByteArray) (L : List ByteArray) (hT : TabU w0) (h : Ln w0 b w pr r anc arc L) :
    Calls Tryd.prog 22 #[.pointer (some ⟨b, 0, none⟩)] w (KyPost w0 b w pr anc arc (keyG r L)) := by
  cases L with
  | nil => exact keys_nil w0 b w pr r anc arc h
  | cons k t =>
    have HN := hidK (next_yes_anyW w0 b w pr r anc arc k t h rfl)
    have HTR : Hid (∀ W, Calls Tryd.prog 37 #[.string k, .string ⟨#[45]⟩] W fun e w' => e = .returned (.string (byB (und k))) ∧ w' = W) := fun W => by
      have := Tryd.strings_TrimPrefix k ⟨#[45]⟩ W
      have e : (⟨(Lib.trimPrefix k.data.toList (⟨#[45]⟩ : ByteArray).data.toList).toArray⟩ : ByteArray) = byB (und k) := trim_und k
      rwa [e] at this
    have HLT : Hid (∀ (W : World) (m : Nat), Ln w0 b W pr r anc arc t → MapAt (.int .i32) W m arP → Calls Tryd.prog 36 #[.pointer (some ⟨b, 0, none⟩), .string (byB (und k)), .map (some m)] W (RlPost w0 b W pr anc arc t (foldG stB r (letL (und k))))) := fun W m h1 h2 => by
      have := letters_c HD act_ar w0 b m W pr r anc arc t (byB (und k)) hT h1 h2
      rwa [byL_byB] at this
    have HKW : Hid (∀ (r1 : Rd) (W : World) (m : Nat), Ln w0 b W pr r1 anc arc t → MapAt (.int .i32) W m arP → Calls Tryd.prog 25 #[.pointer (some ⟨b, 0, none⟩), .map (some m)] W (KwPost w0 b W pr anc arc (kwR stB r1 t))) := fun r1 W m h1 h2 => keyWords_c HD act_ar w0 b m W pr r1 anc arc t hT h1 h2
    have HAR := hidK arLetters_c
    clear h hT HD
    cases hf : foldG stB r (letL (und k)) with
    | inl x =>
      rw [hf] at HLT
      rw [keyG_1 hf]
      clear HKW hf
      go_enter Tryd.func22, Tryd.ntmps22
      go_wp2_with (first
        | (go_at_call 32; refine HN.out.mono ?_; rintro e w1 ⟨rfl, l1, k1⟩)
        | (go_at_call 35; refine (HAR.out _).mono ?_; rintro e w2 ⟨rfl, m2, b2⟩; have l2 := l1.on b2)
        | (go_at_call 37; refine (HTR.out _).mono ?_; rintro e w3 ⟨rfl, hw3⟩; rw [hw3]; clear hw3)
        | (go_at_call 36; refine (HLT.out _ _ l2 m2).mono ?_; rintro e w4 ⟨rfl, hne, hb4⟩; have hz : (x.2 != 0) = true := by simp [hne]))
      go_ret2
      exact ⟨rfl, hne, hb4⟩
    | inr r1 =>
      rw [hf] at HLT
      have HKW1 := hidK (HKW.out r1)
      clear HKW
      cases hk : kwR stB r1 t with
      | inl x =>
        rw [hk] at HKW1
        rw [keyG_2 hf hk]
        clear hk hf
        go_enter Tryd.func22, Tryd.ntmps22
        go_wp2_with (first
          | (go_at_call 32; refine HN.out.mono ?_; rintro e w1 ⟨rfl, l1, k1⟩)
          | (go_at_call 35; refine (HAR.out _).mono ?_; rintro e w2 ⟨rfl, m2, b2⟩; have l2 := l1.on b2)
          | (go_at_call 37; refine (HTR.out _).mono ?_; rintro e w3 ⟨rfl, hw3⟩; rw [hw3]; clear hw3)
          | (go_at_call 36; refine (HLT.out _ _ l2 m2).mono ?_; rintro e w4 ⟨rfl, l4, k4⟩; have m4 := m2.keep (k4.block _ (by obtain ⟨_, _, _, _, h9⟩ := l2.box; exact m2.ne_cells h9) m2.lt))
          | (go_at_call 25; refine (HKW1.out _ _ l4 m4).mono ?_; rintro e w5 ⟨rfl, hne, hb5⟩; have hz : (x.2 != 0) = true := by simp [hne]))
        go_ret2
        exact ⟨rfl, hne, hb5⟩
      | inr q =>
        rw [hk] at HKW1
        by_cases ho : opF q.1.op q.1.s = 0
        · rw [keyG_3 hf hk ho]
          clear hf hk
          go_enter Tryd.func22, Tryd.ntmps22
          go_wp2_with (first
            | (go_at_call 32; refine HN.out.mono ?_; rintro e w1 ⟨rfl, l1, k1⟩)
            | (go_at_call 35; refine (HAR.out _).mono ?_; rintro e w2 ⟨rfl, m2, b2⟩; have l2 := l1.on b2)
            | (go_at_call 37; refine (HTR.out _).mono ?_; rintro e w3 ⟨rfl, hw3⟩; rw [hw3]; clear hw3)
            | (go_at_call 36; refine (HLT.out _ _ l2 m2).mono ?_; rintro e w4 ⟨rfl, l4, k4⟩; have m4 := m2.keep (k4.block _ (by obtain ⟨_, _, _, _, h9⟩ := l2.box; exact m2.ne_cells h9) m2.lt))
            | (go_at_call 25; refine (HKW1.out _ _ l4 m4).mono ?_; rintro e w5 ⟨rfl, l5, k5⟩; have x2 := l5.op0 ho))
          go_ret2
          exact ⟨rfl, show (151 : Int) ≠ 0 from by decide, l5.bel⟩
        · rw [keyG_4 hf hk ho]
          clear hf hk
          go_enter Tryd.func22, Tryd.ntmps22
          go_wp2_with (first
            | (go_at_call 32; refine HN.out.mono ?_; rintro e w1 ⟨rfl, l1, k1⟩)
            | (go_at_call 35; refine (HAR.out _).mono ?_; rintro e w2 ⟨rfl, m2, b2⟩; have l2 := l1.on b2)
            | (go_at_call 37; refine (HTR.out _).mono ?_; rintro e w3 ⟨rfl, hw3⟩; rw [hw3]; clear hw3)
            | (go_at_call 36; refine (HLT.out _ _ l2 m2).mono ?_; rintro e w4 ⟨rfl, l4, k4⟩; have m4 := m2.keep (k4.block _ (by obtain ⟨_, _, _, _, h9⟩ := l2.box; exact m2.ne_cells h9) m2.lt))
            | (go_at_call 25; refine (HKW1.out _ _ l4 m4).mono ?_; rintro e w5 ⟨rfl, l5, k5⟩; obtain ⟨a5, n5, c5, r5, g5⟩ := l5.box; obtain ⟨o5, ho5⟩ : ∃ o5 : Int, o5 = ((opF q.1.op q.1.s).toNat : Int) := ⟨_, rfl⟩; have x2 : w5.cell? ⟨b, 2, none⟩ = some (.int .u8 o5) := (by rw [ho5]; exact cell_rowK g5 2 _ rfl); have hoz : (o5 == 0) = false := (by rw [ho5]; exact opF_ne0 ho); clear ho5))
          go_ret2
          exact ⟨rfl, l5, ((k1.two (Kq.ofBelow b2)).two k4).two k5⟩
end Go.Proofs.YtmhamlhmmkbkaaaDoor
