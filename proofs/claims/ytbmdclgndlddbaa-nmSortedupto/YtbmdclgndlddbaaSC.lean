
-- slices' merge in place (3): the step.
import Derived.Test.YtbmdclgndlddbaaSB
namespace Go.Proofs.Ytbmdclgndlddbaa
open Go.ChangeShapes Go.WideShapes Go.ChangeAt Go.RowKit Go.Sort Go.Shelf Go.Lib
set_option linter.unusedVariables false
set_option maxRecDepth 100000
set_option linter.unusedSectionVars false
set_option linter.unusedSimpArgs false
section
variable {P : Program} {α : Type} [Inhabited α] {enc : α → List Value} {k : Nat} {w0 : World} {blk off : Nat} {d0 : Array α}
/-- what is asked of a merge's own calls -/
def SymC (P : Program) (enc : α → List Value) (k : Nat) (w0 : World) (blk off : Nat) (d0 : Array α) (g : Nat) (cb : Array Value) (cap : Nat) (C Ro : α → α → Prop) (n : Nat) : Prop :=
  ∀ {A X Y Z : List α} {a m b : Nat} {dk : Array α} {W : World}, b - a < n → dk.toList = A ++ (X ++ (Y ++ Z)) → A.length = a → a + X.length = m → m + Y.length = b → 0 < X.length → 0 < Y.length → X.Pairwise Ro → Y.Pairwise Ro → (∀ x ∈ X, ∀ y ∈ Y, C x y) → SWK enc k w0 blk off dk W → dk.size = d0.size →
    Calls P 27 #[.slice (some ⟨blk, off, none⟩) d0.size cap, .int .i64 a, .int .i64 m, .int .i64 b, .func (.func g) #[] cb] W fun e w' => e = .returned (.tuple #[]) ∧ ∃ d' : Array α, SWK enc k w0 blk off d' w' ∧ Mgd Ro A X Y Z d'
def G1 (A A1 A2 B1 B2 Z : List α) (d : Array α) : Prop := d.toList = A ++ (A1 ++ (B1 ++ (A2 ++ (B2 ++ Z))))
def G2 (Ro : α → α → Prop) (A A1 A2 B1 B2 Z : List α) (d : Array α) : Prop := ∃ S, d.toList = A ++ (S ++ (A2 ++ (B2 ++ Z))) ∧ S.Perm (A1 ++ B1) ∧ S.Pairwise Ro
theorem g1_size {A A1 A2 B1 B2 Z : List α} {d dk : Array α} (hk : dk.toList = A ++ ((A1 ++ A2) ++ ((B1 ++ B2) ++ Z))) (h : G1 A A1 A2 B1 B2 Z d) : d.size = dk.size := by
  unfold G1 at h
  rw [← Array.length_toList, ← Array.length_toList, h, hk]; simp only [List.length_append]; omega
theorem g2_size {Ro : α → α → Prop} {A A1 A2 B1 B2 Z : List α} {d dk : Array α} (hk : dk.toList = A ++ ((A1 ++ A2) ++ ((B1 ++ B2) ++ Z))) (h : G2 Ro A A1 A2 B1 B2 Z d) : d.size = dk.size := by
  obtain ⟨S, h, hp, _⟩ := h
  have := hp.length_eq
  rw [← Array.length_toList, ← Array.length_toList, h, hk]; simp only [List.length_append] at *; omega
/-- the three calls of a merge, each made or not -/
structure Thr (P : Program) (enc : α → List Value) (k : Nat) (w0 : World) (blk off : Nat) (d0 : Array α) (g : Nat) (cb : Array Value) (cap : Nat) (Ro : α → α → Prop) (A X Y Z : List α) (a m b mid s e : Nat) (dk : Array α) (Q1 Q2 : Array α → Prop) : Prop where
  c1 : ∀ W, SWK enc k w0 blk off dk W → s < m → s < mid → Calls P 29 #[.slice (some ⟨blk, off, none⟩) d0.size cap, .int .i64 s, .int .i64 m, .int .i64 e, .func (.func g) #[] cb] W fun x w' => x = .returned (.tuple #[]) ∧ ∃ d' : Array α, SWK enc k w0 blk off d' w' ∧ Q1 d'
  n1 : ¬ (s < m ∧ s < mid) → Q1 dk
  c2 : ∀ d W, Q1 d → SWK enc k w0 blk off d W → a < s → s < mid → Calls P 27 #[.slice (some ⟨blk, off, none⟩) d0.size cap, .int .i64 a, .int .i64 s, .int .i64 mid, .func (.func g) #[] cb] W fun x w' => x = .returned (.tuple #[]) ∧ ∃ d' : Array α, SWK enc k w0 blk off d' w' ∧ Q2 d'
  n2 : ∀ d, Q1 d → ¬ (a < s ∧ s < mid) → Q2 d
  c3 : ∀ d W, Q2 d → SWK enc k w0 blk off d W → s < m → e < b → Calls P 27 #[.slice (some ⟨blk, off, none⟩) d0.size cap, .int .i64 mid, .int .i64 e, .int .i64 b, .func (.func g) #[] cb] W fun x w' => x = .returned (.tuple #[]) ∧ ∃ d' : Array α, SWK enc k w0 blk off d' w' ∧ Mgd Ro A X Y Z d'
  n3 : ∀ d, Q2 d → ¬ (s < m ∧ e < b) → Mgd Ro A X Y Z d
theorem thr_of (L : StL P k) (R : RowK enc k w0 blk off d0) {g : Nat} {cb : Array Value} {cap : Nat} {C Ro : α → α → Prop} {n : Nat} (hI : SymC P enc k w0 blk off d0 g cb cap C Ro n) (hsz : d0.size < 4611686018427387904)
    {A A1 A2 B1 B2 Z : List α} {a m b mid s e : Nat} {dk : Array α} (hd : dk.toList = A ++ ((A1 ++ A2) ++ ((B1 ++ B2) ++ Z))) (ha : A.length = a) (h1 : a + A1.length = s) (h2 : s + A2.length = m) (h3 : m + B1.length = e) (h4 : e + B2.length = b) (h5 : s + B1.length = mid) (hn : b - a ≤ n) (hmb : mid < b) (ham : a < mid)
    (hX : (A1 ++ A2).Pairwise Ro) (hY : (B1 ++ B2).Pairwise Ro) (hC : ∀ x ∈ A1 ++ A2, ∀ y ∈ B1 ++ B2, C x y) (hcr : ∀ x ∈ A1 ++ B1, ∀ y ∈ A2 ++ B2, Ro x y) (hs : dk.size = d0.size) :
    Thr P enc k w0 blk off d0 g cb cap Ro A (A1 ++ A2) (B1 ++ B2) Z a m b mid s e dk (G1 A A1 A2 B1 B2 Z) (G2 Ro A A1 A2 B1 B2 Z) := by
  obtain ⟨x1, x2, x3⟩ := List.pairwise_append.1 hX
  obtain ⟨y1, y2, y3⟩ := List.pairwise_append.1 hY
  refine ⟨fun W hW q1 q2 => ?_, fun q => ?_, fun d W g1 hW q1 q2 => ?_, fun d g1 q => ?_, fun d W g2 hW q1 q2 => ?_, fun d g2 q => ?_⟩
  · refine (rotate_c (A := A ++ A1) (X := A2) (Y := B1) (Z := B2 ++ Z) (dk := dk) L R _ cap hsz (by rw [hd]; simp) (by rw [List.length_append]; omega) h2 h3 (by omega) (by omega) hW hs).mono ?_
    rintro x w ⟨rfl, d', e1, e2⟩
    exact ⟨rfl, d', e1, by show _ = _; rw [e2]; simp⟩
  · show _ = _
    rw [hd]
    by_cases q1 : s < m
    · have : B1 = [] := List.eq_nil_of_length_eq_zero (by omega)
      subst this; simp
    · have : A2 = [] := List.eq_nil_of_length_eq_zero (by omega)
      subst this; simp
  · refine (hI (A := A) (X := A1) (Y := B1) (Z := A2 ++ (B2 ++ Z)) (by omega) g1 ha h1 h5 (by omega) (by omega) x1 y1 (fun x hx y hy => hC x (by simp [hx]) y (by simp [hy])) hW ((g1_size hd g1).trans hs)).mono ?_
    rintro x w ⟨rfl, d', e1, S, e2, e3, e4⟩
    exact ⟨rfl, d', e1, S, e2, e3, e4⟩
  · refine ⟨A1 ++ B1, by rw [show d.toList = _ from g1]; simp, List.Perm.refl _, ?_⟩
    by_cases q1 : a < s
    · have : B1 = [] := List.eq_nil_of_length_eq_zero (by omega)
      subst this; simpa using x1
    · have : A1 = [] := List.eq_nil_of_length_eq_zero (by omega)
      subst this; simpa using y1
  · have hz := (g2_size hd g2).trans hs
    obtain ⟨S, k1, k2, k3⟩ := g2
    have hl := k2.length_eq
    rw [List.length_append] at hl
    refine (hI (A := A ++ S) (X := A2) (Y := B2) (Z := Z) (a := mid) (m := e) (b := b) (dk := d) (by omega) (by rw [k1]; simp) (by rw [List.length_append]; omega) (by omega) h4 (by omega) (by omega) x2 y2 (fun x hx y hy => hC x (by simp [hx]) y (by simp [hy])) hW hz).mono ?_
    rintro x w ⟨rfl, d', e1, S2, e2, e3, e4⟩
    obtain ⟨p1, p2⟩ := merge_done hcr k2 e3 k3 e4
    exact ⟨rfl, d', e1, S ++ S2, by rw [e2]; simp, p1, p2⟩
  · obtain ⟨S, k1, k2, k3⟩ := g2
    have s2 : (A2 ++ B2).Pairwise Ro := by
      by_cases q1 : s < m
      · have : B2 = [] := List.eq_nil_of_length_eq_zero (by omega)
        subst this; simpa using x2
      · have : A2 = [] := List.eq_nil_of_length_eq_zero (by omega)
        subst this; simpa using y2
    obtain ⟨p1, p2⟩ := merge_done hcr k2 (List.Perm.refl _) k3 s2
    exact ⟨S ++ (A2 ++ B2), by rw [k1]; simp, p1, p2⟩
end
end Go.Proofs.Ytbmdclgndlddbaa
