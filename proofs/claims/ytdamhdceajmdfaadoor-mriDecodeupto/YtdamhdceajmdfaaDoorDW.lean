
-- MriDecode's walk.
import Derived.Test.YtdamhdceajmdfaaDoorDE
import Derived.Test.YtdamhdceajmdfaaDoorT6
namespace Go.Proofs.YtdamhdceajmdfaaDoor
open Go.ChangeShapes Go.WideShapes Go.ChangeAt Go.RowKit Go.MapKept
set_option linter.unusedVariables false
set_option maxRecDepth 100000
set_option linter.unusedSimpArgs false
theorem drop_sum (m : List ByteArray) : sumS m.dropLast ≤ sumS m := by
  by_cases h : m = []
  · subst h; simp
  · conv => rhs; rw [← List.dropLast_concat_getLast h]
    rw [sumS_app]; omega
theorem names_sum {t ns : List ByteArray} {k : Nat} (h : namesA t k = some ns) : sumS ns ≤ sumS t := by
  have hw : ∀ {t ns : List ByteArray}, wordsA t = some ns → ns = t := by
    intro t ns h
    unfold wordsA at h
    split at h
    · cases h
    · injection h with h; exact h.symm
  unfold namesA at h
  split at h
  · rw [hw h]; exact Nat.le_refl _
  · split at h
    · rw [hw h]
      refine Nat.le_trans (drop_sum _) ?_
      cases t with
      | nil => simp
      | cons x r => rw [List.tail_cons, sumS_cons]; omega
    · split at h
      · injection h with h; subst h; simp [sumS]
      · cases h
theorem cmd_size {t : List ByteArray} {c : Mr} (h : cmdA t = .inr c) : szM c ≤ sumS t + 4 := by
  cases t with
  | nil => cases h
  | cons x r =>
    unfold cmdA at h
    simp only at h
    split at h
    · cases h
    · split at h
      · cases r with
        | nil => cases h
        | cons y q =>
          simp only at h
          split at h
          · cases h
          · cases hn : namesA q (kindV (verbN x)) with
            | none => rw [hn] at h; cases h
            | some ns =>
              rw [hn] at h
              injection h with h
              subst h
              have := names_sum hn
              unfold szM
              rw [sumS_cons, sumS_cons]
              simp only
              omega
      · cases hn : namesA r (kindV (verbN x)) with
        | none => rw [hn] at h; cases h
        | some ns =>
          rw [hn] at h
          injection h with h
          subst h
          have := names_sum hn
          unfold szM
          rw [sumS_cons]
          have e : (⟨#[]⟩ : ByteArray).size = 0 := rfl
          simp only [e]
          omega
theorem totR_app (a b : List Mr) : totR (a ++ b) = totR a + totR b := by simp [totR]
def gS (R : List (Nat × List ByteArray)) : Nat := (R.map fun p => sumS p.2 + 4).sum
theorem gS_cons (p : Nat × List ByteArray) (R : List (Nat × List ByteArray)) : gS (p :: R) = sumS p.2 + 4 + gS R := by simp [gS]
theorem gS_app (A B : List (Nat × List ByteArray)) : gS (A ++ B) = gS A + gS B := by simp [gS]
theorem dec_tot : ∀ (R : List (Nat × List ByteArray)) (acc : List Mr), totR (decG R acc).1 ≤ totR acc + gS R := by
  intro R
  induction R with
  | nil => intro acc; rw [decG]; exact Nat.le_add_right _ _
  | cons p r ih =>
    intro acc
    obtain ⟨n, t⟩ := p
    rw [gS_cons, decG]
    split
    · have := ih acc; omega
    · cases hc : cmdA t with
      | inl e => simp only; exact Nat.zero_le _
      | inr c =>
        simp only
        have h1 := ih (acc ++ [c])
        have h2 := cmd_size hc
        rw [totR_app] at h1
        have h3 : totR [c] = szM c := by rw [totR_cons]; rfl
        omega
theorem mod_gS (c : List ByteArray) : ∀ (L : List (Nat × List ByteArray)) (i : Nat), gS (L.modify i (fun x => (x.1, x.2 ++ c))) ≤ gS L + sumS c := by
  intro L
  induction L with
  | nil => intro i; simp
  | cons p L ih =>
    intro i
    cases i with
    | zero => rw [List.modify_zero_cons, gS_cons, gS_cons]; simp only [sumS_app]; omega
    | succ i => rw [List.modify_succ_cons, gS_cons, gS_cons]; have := ih i; omega
theorem fold_gS : ∀ (T : List (List ByteArray)) (G : List (Nat × List ByteArray)) (ct : Bool) (n : Nat), gS (T.foldl stepC (G, ct, n)).1 ≤ gS G + (T.map fun m => sumS m + 4).sum := by
  intro T
  induction T with
  | nil => intro G ct n; simp
  | cons m T ih =>
    intro G ct n
    rw [List.foldl_cons, List.map_cons, List.sum_cons]
    have h1 := ih (stepC (G, ct, n) m).1 (stepC (G, ct, n) m).2.1 (stepC (G, ct, n) m).2.2
    have h2 : gS (stepC (G, ct, n) m).1 ≤ gS G + 4 + sumS m := by
      unfold stepC
      simp only
      refine Nat.le_trans (mod_gS _ _ _) ?_
      have h3 := cutP_sum m
      have h4 : gS (if ct = true then G else G ++ [(n + 1, [])]) ≤ gS G + 4 := by
        split
        · omega
        · rw [gS_app]; have : gS [(n + 1, ([] : List ByteArray))] = 4 := rfl; omega
      omega
    have e : stepC (G, ct, n) m = ((stepC (G, ct, n) m).1, (stepC (G, ct, n) m).2.1, (stepC (G, ct, n) m).2.2) := rfl
    rw [e]
    omega
theorem decT_tot (l : List UInt8) : totR (decT l).1 ≤ 6 * l.length + 4 := by
  unfold decT
  have h1 := dec_tot (groups ((linesL l).map tokL)) []
  have h2 := fold_gS ((linesL l).map tokL) [] false 0
  have h3 : ∀ A : List (List UInt8), ((A.map tokL).map fun m => sumS m + 4).sum ≤ 2 * (A.map List.length).sum + 4 * A.length := by
    intro A
    induction A with
    | nil => simp
    | cons x A ih =>
      have := tokG_size x []
      simp only [List.map_cons, List.sum_cons, List.length_cons, List.length_nil] at this ih ⊢
      unfold tokL at *
      omega
  have h4 := h3 (linesL l)
  have h5 := lnG_tot l []
  have h6 : ∀ (l c : List UInt8), (lnG c l).length ≤ l.length + 1 := by
    intro l
    induction l with
    | nil => intro c; rw [lnG]; split <;> simp
    | cons b r ih =>
      intro c
      rw [lnG]
      split
      · have := ih []; simp only [List.length_cons]; omega
      · have := ih (c ++ [b]); simp only [List.length_cons]; omega
  have h7 := h6 l []
  have e0 : totR [] = 0 := rfl
  have e1 : gS [] = 0 := rfl
  unfold groups at h1 ⊢
  unfold linesL at *
  simp only [List.length_nil] at h5
  omega
set_option maxHeartbeats 8000000 in
theorem mriDecode_w (s : ByteArray) (w : World) (hV : VT w) (hW : WT w) (hs : s.size ≤ 1048576) :
    Calls Tryd.prog 6 #[.string s] w fun e w' => e = .returned (.bool true) ∧ Below w.heap.size w w' := by
  obtain ⟨L, n, k, hd⟩ : ∃ L n k, decT (byL s) = (L, n, k) := ⟨_, _, _, rfl⟩
  have htot := decT_tot (byL s)
  rw [hd, byL_size] at htot
  simp only at htot
  have hlt : totR L ≤ 16777216 := by omega
  have H1 : Hid (Calls Tryd.prog 13 #[.string s] w fun e w' => ∃ v P, e = .returned (.tuple #[v, .int .i64 (n : Nat), .int .i64 k]) ∧ RowR w' v P ∧ P.map (·.1) = L ∧ Below w.heap.size w w') := by
    refine (decode_c s w hV (by omega)).mono ?_
    rintro e w' ⟨v2, P2, n2, k2, rfl, o2, d2, b2⟩
    rw [hd] at d2
    injection d2 with d2 d3
    injection d3 with d3 d4
    subst d3; subst d4
    exact ⟨v2, P2, rfl, o2.toRow, d2.symm, b2⟩
  have H2 : Hid (∀ wx, Below w.heap.size w wx → Calls Tryd.prog 15 #[.string s] wx fun e w' => ∃ v P, e = .returned (.tuple #[v, .int .i64 (n : Nat), .int .i64 k]) ∧ RowR w' v P ∧ P.map (·.1) = L ∧ Below wx.heap.size wx w') := fun wx hb => by
    refine (rdecode_c s wx (hW.up hb) (by omega)).mono ?_
    rintro e w' ⟨v2, P2, n2, k2, rfl, o2, d2, b2⟩
    rw [hd] at d2
    injection d2 with d2 d3
    injection d3 with d3 d4
    subst d3; subst d4
    exact ⟨v2, P2, rfl, o2, d2.symm, b2⟩
  have H4 : Hid (∀ u1 u2 Q1 Q2 wx, RowR wx u1 Q1 → RowR wx u2 Q2 → Q1.map (·.1) = L → Q2.map (·.1) = L → Calls Tryd.prog 11 #[u1, u2] wx fun e w' => e = .returned (.bool true) ∧ Below wx.heap.size wx w') := fun u1 u2 Q1 Q2 wx h1 h2 e1 e2 => sameList_c u1 u2 Q1 Q2 wx h1 h2 (by rw [e1, e2]) (by rw [e1]; exact hlt)
  clear hd htot hlt hV hW hs
  go_enter Tryd.func6, Tryd.ntmps6
  go_upto_region 2 with (go_at_call 13; refine H1.out.mono ?_; rintro e w1 ⟨v1, P1, rfl, o1, e1, b1⟩; have HO1 := hidK o1; have HE1 := hidK e1; have HB1 := hidK b1; clear o1 e1 b1)
  clear H1
  go_upto_region 3 with (go_at_call 15; refine (H2.out _ HB1.out).mono ?_; rintro e w2 ⟨v2, P2, rfl, o2, e2, b2⟩; have HO2 := hidK o2; have HE2 := hidK e2; have HP1 := hidK (HO1.out.on b2); have HB2 := hidK (bel3K HB1.out b2); clear o2 e2 b2)
  clear H2
  go_wp2_with (go_at_call 11; refine (H4.out _ _ P1 P2 _ HP1.out HO2.out HE1.out HE2.out).mono ?_; rintro e w3 ⟨rfl, b3⟩; have HB3 := hidK (bel3K HB2.out b3); clear b3)
  go_ret
  exact ⟨by simp, HB3.out⟩
end Go.Proofs.YtdamhdceajmdfaaDoor
