
-- Plain: a date's four words, a line's eight.
import Derived.Test.YtjpoifoejbabiabDoorPY
namespace Go.Proofs.YtjpoifoejbabiabDoor
open Go
set_option linter.unusedVariables false
set_option maxRecDepth 100000
set_option linter.unusedSimpArgs false
/-- plain bytes and blanks -/
def blankC (l : List UInt8) : Prop := ∀ c ∈ l, plainC c ∨ c = 32
theorem blankC_clean {l : List UInt8} (h : blankC l) : clean l := by
  intro c hc
  rcases h c hc with h | h
  · exact ⟨h.1, h.2.1⟩
  · rw [h]; decide
theorem blankC_nonl {l : List UInt8} (h : blankC l) : ∀ c ∈ l, c ≠ 10 := by
  intro c hc e
  rcases h c hc with h | h
  · have := h.2.2; rw [e] at this; exact absurd this (by decide)
  · rw [h] at e; exact absurd e (by decide)
theorem blankC_app {a b : List UInt8} (ha : blankC a) (hb : blankC b) : blankC (a ++ b) := by
  intro c hc
  rcases List.mem_append.1 hc with h | h
  · exact ha c h
  · exact hb c h
theorem blankC_of {l : List UInt8} (h : ∀ c ∈ l, plainC c) : blankC l := fun c hc => .inl (h c hc)
theorem blankC_32 {l : List UInt8} (h : blankC l) : blankC (32 :: l) := by
  intro c hc
  rcases List.mem_cons.1 hc with h1 | h1
  · exact .inr h1
  · exact h c h1
theorem mName_plain (k : Nat) (h : k < 12) : (∀ c ∈ lsq (mName k), plainC c) ∧ lsq (mName k) ≠ [] := by
  have h1 : ∀ k : Fin 12, ((lsq (mName k.val)).all (fun c => c != 92 && c != 34 && !partsB c) && !(lsq (mName k.val)).isEmpty) = true := by decide
  have h2 := h1 ⟨k, h⟩
  rw [Bool.and_eq_true, List.all_eq_true] at h2
  refine ⟨fun c hc => ?_, ?_⟩
  · have := h2.1 c hc
    simp at this
    exact ⟨this.1.1, this.1.2, this.2⟩
  · intro e
    have := h2.2
    simp only [] at this
    rw [e] at this
    simp at this
theorem day_cw (d : Nat) (h : d < 100) : (∃ x, cw (lsq (dayB d)) false [] = [x]) ∧ blankC (lsq (dayB d)) := by
  unfold dayB
  split
  · rename_i h1
    rw [lsq_strB]
    have hp := dv_plain d h1
    refine ⟨⟨strB [dv d], ?_⟩, ?_⟩
    · have := cw_blanks 1 [dv d]
      rw [show List.replicate 1 (32 : UInt8) ++ [dv d] = [32, dv d] from rfl] at this
      rw [this]
      exact cw_one (by simp) (by intro c hc; rw [List.mem_singleton] at hc; rw [hc]; exact hp.2.2)
    · refine blankC_32 (blankC_of ?_)
      intro c hc; rw [List.mem_singleton] at hc; rw [hc]; exact hp
  · have ht := two_plain d h
    exact ⟨⟨_, cw_one (by unfold twoB; rw [lsq_strB]; simp) (bare_of ht)⟩, blankC_of ht⟩
theorem dateS_words (y : Int) (m d h i : Nat) (hm : m - 1 < 12) (hd : d < 100) (hh : h < 100) (hi : i < 100) :
    (cw (lsq (dateS y m d h i)) false []).length = 4 ∧ blankC (lsq (dateS y m d h i)) := by
  obtain ⟨n1, n2⟩ := mName_plain (m - 1) hm
  obtain ⟨⟨dx, d1⟩, d2⟩ := day_cw d hd
  have h1 := two_plain h hh
  have i1 := two_plain i hi
  obtain ⟨y1, y2⟩ := itoa_plain y
  have e : lsq (dateS y m d h i) = lsq (mName (m - 1)) ++ 32 :: (lsq (dayB d) ++ 32 :: ((lsq (twoB h) ++ 58 :: lsq (twoB i)) ++ 32 :: Lib.itoa y)) := by
    unfold dateS yearB
    simp only [lsq_app]
    have e1 : lsq ⟨#[32]⟩ = [32] := rfl
    have e2 : lsq ⟨#[58]⟩ = [58] := rfl
    have e3 : lsq ⟨(Lib.itoa y).toArray⟩ = Lib.itoa y := by unfold lsq; simp
    rw [e1, e2, e3]
    simp
  have hc : ∀ c ∈ lsq (twoB h) ++ 58 :: lsq (twoB i), plainC c := by
    intro c hc
    rcases List.mem_append.1 hc with hc | hc
    · exact h1 c hc
    · rcases List.mem_cons.1 hc with rfl | hc
      · exact plainC_of (.inr (by decide))
      · exact i1 c hc
  rw [e]
  refine ⟨?_, ?_⟩
  · rw [cw_two n1 n2, cw_app _ _ 32 (by decide), d1, cw_two hc (by simp), cw_one y2 (bare_of y1)]
    rfl
  · exact blankC_app (blankC_of n1) (blankC_32 (blankC_app d2 (blankC_32 (blankC_app (blankC_of hc) (blankC_32 (blankC_of y1))))))
theorem dateT_words (s : Int) : (cw (lsq (dateT s)) false []).length = 4 ∧ blankC (lsq (dateT s)) := by
  rcases dateT_ways s with h | ⟨y, m, d, h1, hD, h⟩
  · rw [h]
    refine ⟨by decide, ?_⟩
    intro c hc
    have h1 : (lsq qs).all (fun c => (c != 92 && c != 34 && !partsB c) || c == 32) = true := by decide
    rw [List.all_eq_true] at h1
    have := h1 c hc
    simp at this
    rcases this with h | h
    · exact .inl ⟨h.1.1, h.1.2, h.2⟩
    · exact .inr h
  · rw [h]
    have hl := ml_le y m
    obtain ⟨_, m1, m2, d1, d2, _⟩ := hD
    exact dateS_words _ _ _ _ _ (by omega) (by omega) (by omega) (by omega)
theorem itB_plain (n : Int) : (∀ c ∈ lsq (itB n), plainC c) ∧ lsq (itB n) ≠ [] := by
  have e : lsq (itB n) = Lib.itoa n := by unfold itB lsq; simp
  rw [e]; exact itoa_plain n
theorem own_plain (a b : Int) : (∀ c ∈ lsq (itB a ++ ⟨#[47]⟩ ++ itB b), plainC c) ∧ lsq (itB a ++ ⟨#[47]⟩ ++ itB b) ≠ [] := by
  obtain ⟨a1, a2⟩ := itB_plain a
  obtain ⟨b1, b2⟩ := itB_plain b
  have e1 : lsq ⟨#[47]⟩ = [47] := rfl
  rw [lsq_app, lsq_app, e1]
  refine ⟨fun c hc => ?_, by simp⟩
  rcases List.mem_append.1 hc with hc | hc
  · rcases List.mem_append.1 hc with hc | hc
    · exact a1 c hc
    · rw [List.mem_singleton] at hc; rw [hc]; exact plainC_of (.inr (by decide))
  · exact b1 c hc
theorem padB_list (s : ByteArray) : lsq (padB s) = List.replicate (lackN s 6) 32 ++ lsq s := by
  unfold padB spB; rw [lsq_app, lsq_strB]
theorem rep_blank (k : Nat) : blankC (List.replicate k 32) := fun c hc => .inr (List.eq_of_mem_replicate hc)
/-- a line ahead of its newline -/
def lineL (m : Mx) : List UInt8 := lsq (modeB m.m) ++ 32 :: (lsq (itB m.u ++ ⟨#[47]⟩ ++ itB m.g) ++ 32 :: (lsq (padB (itB m.s)) ++ 32 :: (lsq (dateT m.d) ++ 32 :: QL m.n)))
theorem line_list (m : Mx) : lsq (lineB m) = lineL m ++ [10] := by
  unfold lineB lineL
  simp only [lsq_app, lsq_strB]
  have e1 : lsq ⟨#[32]⟩ = [32] := rfl
  have e2 : lsq ⟨#[10]⟩ = [10] := rfl
  rw [e1, e2]
  simp
theorem line_nonl (m : Mx) : ∀ c ∈ lineL m, c ≠ 10 := by
  obtain ⟨a1, _⟩ := mode_plain m.m
  obtain ⟨b1, _⟩ := own_plain m.u m.g
  obtain ⟨c1, _⟩ := itB_plain m.s
  obtain ⟨_, d1⟩ := dateT_words m.d
  have hb : blankC (lsq (modeB m.m) ++ 32 :: (lsq (itB m.u ++ ⟨#[47]⟩ ++ itB m.g) ++ 32 :: (lsq (padB (itB m.s)) ++ 32 :: (lsq (dateT m.d) ++ [32])))) := by
    rw [padB_list]
    exact blankC_app (blankC_of a1) (blankC_32 (blankC_app (blankC_of b1) (blankC_32 (blankC_app (blankC_app (rep_blank _) (blankC_of c1)) (blankC_32 (blankC_app d1 (blankC_32 (fun c hc => by cases hc))))))))
  intro c hc
  have e : lineL m = (lsq (modeB m.m) ++ 32 :: (lsq (itB m.u ++ ⟨#[47]⟩ ++ itB m.g) ++ 32 :: (lsq (padB (itB m.s)) ++ 32 :: (lsq (dateT m.d) ++ [32])))) ++ QL m.n := by unfold lineL; simp
  rw [e] at hc
  rcases List.mem_append.1 hc with hc | hc
  · exact blankC_nonl hb c hc
  · intro q
    have := quote_ge (lsq m.n) c hc
    rw [q] at this
    exact absurd this (by decide)
theorem line_words (m : Mx) : wordsL (lsq (lineB m)) = .inr ([modeB m.m, itB m.u ++ ⟨#[47]⟩ ++ itB m.g, itB m.s] ++ cw (lsq (dateT m.d)) false [] ++ [m.n]) := by
  obtain ⟨a1, a2⟩ := mode_plain m.m
  obtain ⟨b1, b2⟩ := own_plain m.u m.g
  obtain ⟨c1, c2⟩ := itB_plain m.s
  obtain ⟨_, d1⟩ := dateT_words m.d
  have hp : blankC (lsq (padB (itB m.s))) := by rw [padB_list]; exact blankC_app (rep_blank _) (blankC_of c1)
  rw [line_list]
  unfold wordsL lineL
  simp only [List.append_assoc, List.cons_append]
  rw [scan_cwK _ _ (clean_of a1) 32 (by decide), scan_cwK _ _ (clean_of b1) 32 (by decide), scan_cwK _ _ (blankC_clean hp) 32 (by decide), scan_cwK _ _ (blankC_clean d1) 32 (by decide)]
  unfold QL
  rw [scan_quoteL, scan_part _ _ _ _ _ (by decide), scan_nil, cw_one a2 (bare_of a1), cw_one b2 (bare_of b1), padB_list, cw_blanks, cw_one c2 (bare_of c1)]
  simp only [strB_lsq]
  simp [endW, strB_lsq]
end Go.Proofs.YtjpoifoejbabiabDoor
