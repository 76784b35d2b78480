import Derived.Test.YtjpoifoejbabiabDoorLB
import Derived.Deep.RegionHeld3
import Derived.BigRegion

-- Plain: words of bytes without quotes and escapes.
namespace Go.Proofs.YtjpoifoejbabiabDoor
open Go
set_option linter.unusedVariables false
set_option maxRecDepth 100000
set_option linter.unusedSimpArgs false
/-- the words, from a word that is open or none -/
def cw : List UInt8 → Bool → List UInt8 → List ByteArray
  | [], inn, wd => endW inn wd []
  | c :: r, inn, wd => if partsB c then endW inn wd [] ++ cw r false [] else cw r true (wd ++ [c])
theorem endW_app (inn : Bool) (wd : List UInt8) (ws : List ByteArray) : endW inn wd ws = ws ++ endW inn wd [] := by unfold endW; cases inn <;> simp
def clean (l : List UInt8) : Prop := ∀ c ∈ l, c ≠ 92 ∧ c ≠ 34
theorem scan_cw (l : List UInt8) (hl : clean l) : ∀ (pos : Nat) (inn : Bool) (wd : List UInt8) (ws : List ByteArray), scanL l pos none inn wd ws = .inr (ws ++ cw l inn wd) := by
  induction l with
  | nil => intro pos inn wd ws; rw [scan_nil]; simp only [cw]; rw [endW_app]
  | cons c r ih =>
    intro pos inn wd ws
    obtain ⟨h1, h2⟩ := hl c (by simp)
    have ihr := ih (fun d hd => hl d (by simp [hd]))
    by_cases hp : partsB c = true
    · rw [scan_part r pos inn wd ws hp, ihr, endW_app inn wd ws, List.append_assoc]
      simp only [cw, if_pos hp]
    · rw [scan_byte r pos none inn wd ws (fun h => hp h.1) h1 h2, ihr]
      simp only [cw, if_neg hp]
theorem scan_cwK (l rest : List UInt8) (hl : clean l) (x : UInt8) (hx : partsB x = true) : ∀ (pos : Nat) (inn : Bool) (wd : List UInt8) (ws : List ByteArray), scanL (l ++ x :: rest) pos none inn wd ws = scanL rest (pos + l.length + 1) none false [] (ws ++ cw l inn wd) := by
  induction l with
  | nil => intro pos inn wd ws; rw [List.nil_append, scan_part _ _ _ _ _ hx]; simp only [cw]; rw [endW_app]; rfl
  | cons c r ih =>
    intro pos inn wd ws
    obtain ⟨h1, h2⟩ := hl c (by simp)
    have ihr := ih (fun d hd => hl d (by simp [hd]))
    have el : pos + (c :: r).length + 1 = pos + 1 + r.length + 1 := by rw [List.length_cons]; omega
    rw [List.cons_append, el]
    by_cases hp : partsB c = true
    · rw [scan_part _ pos inn wd ws hp, ihr, endW_app inn wd ws, List.append_assoc]
      simp only [cw, if_pos hp]
    · rw [scan_byte _ pos none inn wd ws (fun h => hp h.1) h1 h2, ihr]
      simp only [cw, if_neg hp]
theorem cw_app (l rest : List UInt8) (x : UInt8) (hx : partsB x = true) : ∀ (inn : Bool) (wd : List UInt8), cw (l ++ x :: rest) inn wd = cw l inn wd ++ cw rest false [] := by
  induction l with
  | nil => intro inn wd; simp only [List.nil_append, cw, if_pos hx]
  | cons c r ih =>
    intro inn wd
    simp only [List.cons_append, cw]
    by_cases hp : partsB c = true
    · rw [if_pos hp, if_pos hp, ih, List.append_assoc]
    · rw [if_neg hp, if_neg hp, ih]
theorem cw_bare (l : List UInt8) (hl : ∀ c ∈ l, partsB c = false) : ∀ (wd : List UInt8), cw l true wd = [strB (wd ++ l)] := by
  induction l with
  | nil => intro wd; simp [cw, endW]
  | cons c r ih =>
    intro wd
    have hc := hl c (by simp)
    simp only [cw]
    rw [if_neg (by rw [hc]; simp), ih (fun d hd => hl d (by simp [hd]))]
    simp
theorem cw_one {l : List UInt8} (hne : l ≠ []) (hl : ∀ c ∈ l, partsB c = false) : cw l false [] = [strB l] := by
  cases l with
  | nil => exact absurd rfl hne
  | cons c r =>
    have hc := hl c (by simp)
    simp only [cw]
    rw [if_neg (by rw [hc]; simp), cw_bare r (fun d hd => hl d (by simp [hd]))]
    simp
theorem cw_blanks (k : Nat) (l : List UInt8) : cw (List.replicate k 32 ++ l) false [] = cw l false [] := by
  induction k with
  | zero => rfl
  | succ k ih =>
    rw [List.replicate_succ, List.cons_append]
    simp only [cw]
    rw [if_pos (by decide), ih]
    simp [endW]
end Go.Proofs.YtjpoifoejbabiabDoor

-- Plain: a line's words.
namespace Go.Proofs.YtjpoifoejbabiabDoor
open Go
set_option linter.unusedVariables false
set_option maxRecDepth 100000
set_option linter.unusedSimpArgs false
theorem dig_mem (u : Nat) : ∀ c ∈ Lib.decDigits u, 48 ≤ c.toNat ∧ c.toNat ≤ 57 := by
  induction u using Nat.strongRecOn with
  | ind u ih =>
    intro c hc
    rw [Lib.decDigits] at hc
    split at hc
    · rename_i h
      rw [List.mem_singleton] at hc
      rw [hc, UInt8.toNat_ofNat']; omega
    · rename_i h
      rw [List.mem_append] at hc
      rcases hc with hc | hc
      · exact ih (u / 10) (by omega) c hc
      · rw [List.mem_singleton] at hc
        rw [hc, UInt8.toNat_ofNat']; omega
theorem dig_ne (u : Nat) : Lib.decDigits u ≠ [] := by
  rw [Lib.decDigits]
  split <;> simp
def plainC (c : UInt8) : Prop := c ≠ 92 ∧ c ≠ 34 ∧ partsB c = false
theorem plainC_of {c : UInt8} (h : c.toNat = 45 ∨ (47 ≤ c.toNat ∧ c.toNat ≤ 58)) : plainC c :=
  ⟨u8ne 92 (by show c.toNat ≠ 92; omega), u8ne 34 (by show c.toNat ≠ 34; omega), parts_false ⟨by omega, by omega, by omega⟩⟩
theorem itoa_plain (n : Int) : (∀ c ∈ Lib.itoa n, plainC c) ∧ Lib.itoa n ≠ [] := by
  unfold Lib.itoa
  split
  · refine ⟨fun c hc => ?_, by simp⟩
    rcases List.mem_cons.1 hc with rfl | hc
    · exact plainC_of (.inl rfl)
    · have := dig_mem _ c hc; exact plainC_of (.inr (by omega))
  · refine ⟨fun c hc => ?_, dig_ne _⟩
    have := dig_mem _ c hc; exact plainC_of (.inr (by omega))
theorem lets_ok (m : Int) : ∀ x ∈ lets m 3, 33 ≤ x ∧ x < 127 ∧ x ≠ 34 ∧ x ≠ 92 := by
  intro x hx
  simp only [lets, List.mem_cons, List.not_mem_nil, or_false] at hx
  rcases hx with rfl | rfl | rfl | rfl | rfl | rfl | rfl | rfl | rfl <;> (first | unfold lif | unfold exl) <;> (repeat' split) <;> omega
theorem mode_plain (m : Int) : (∀ c ∈ lsq (modeB m), plainC c) ∧ lsq (modeB m) ≠ [] := by
  have e : lsq (modeB m) = (lets m 3).map fun x => x.toNat.toUInt8 := by unfold modeB strI lsq; simp
  rw [e]
  refine ⟨fun c hc => ?_, by simp [lets]⟩
  obtain ⟨x, hx, rfl⟩ := List.mem_map.1 hc
  have h := lets_ok m x hx
  have h2 : (x.toNat.toUInt8).toNat = x.toNat := by simp; omega
  exact ⟨u8ne 92 (by rw [h2]; show x.toNat ≠ 92; omega), u8ne 34 (by rw [h2]; show x.toNat ≠ 34; omega), parts_false ⟨by rw [h2]; omega, by rw [h2]; omega, by rw [h2]; omega⟩⟩
theorem clean_of {l : List UInt8} (h : ∀ c ∈ l, plainC c) : clean l := fun c hc => ⟨(h c hc).1, (h c hc).2.1⟩
theorem bare_of {l : List UInt8} (h : ∀ c ∈ l, plainC c) : ∀ c ∈ l, partsB c = false := fun c hc => (h c hc).2.2
theorem lsq_app (a b : ByteArray) : lsq (a ++ b) = lsq a ++ lsq b := by unfold lsq; simp
/-- a date's bytes: clean, no newline, four words -/
theorem cw_two {a b : List UInt8} (ha : ∀ c ∈ a, plainC c) (hne : a ≠ []) : cw (a ++ 32 :: b) false [] = strB a :: cw b false [] := by
  rw [cw_app a b 32 (by decide), cw_one hne (bare_of ha)]; rfl
theorem dv_plain (n : Nat) (h : n < 10) : plainC (dv n) := by
  unfold dv
  refine plainC_of (.inr ?_)
  rw [UInt8.toNat_ofNat']; omega
theorem two_plain (n : Nat) (h : n < 100) : ∀ c ∈ lsq (twoB n), plainC c := by
  intro c hc
  unfold twoB at hc
  rw [lsq_strB] at hc
  rcases List.mem_cons.1 hc with rfl | hc
  · exact dv_plain _ (by omega)
  · rw [List.mem_singleton] at hc; rw [hc]; exact dv_plain _ (by omega)
end Go.Proofs.YtjpoifoejbabiabDoor

-- Plain: a date's four words, a line's eight.
namespace Go.Proofs.YtjpoifoejbabiabDoor
open Go
set_option linter.unusedVariables false
set_option maxRecDepth 100000
set_option linter.unusedSimpArgs false
/-- plain bytes and blanks -/
def blankC (l : List UInt8) : Prop := ∀ c ∈ l, plainC c ∨ c = 32
theorem blankC_clean {l : List UInt8} (h : blankC l) : clean l := by
  intro c hc
  rcases h c hc with h | h
  · exact ⟨h.1, h.2.1⟩
  · rw [h]; decide
theorem blankC_nonl {l : List UInt8} (h : blankC l) : ∀ c ∈ l, c ≠ 10 := by
  intro c hc e
  rcases h c hc with h | h
  · have := h.2.2; rw [e] at this; exact absurd this (by decide)
  · rw [h] at e; exact absurd e (by decide)
theorem blankC_app {a b : List UInt8} (ha : blankC a) (hb : blankC b) : blankC (a ++ b) := by
  intro c hc
  rcases List.mem_append.1 hc with h | h
  · exact ha c h
  · exact hb c h
theorem blankC_of {l : List UInt8} (h : ∀ c ∈ l, plainC c) : blankC l := fun c hc => .inl (h c hc)
theorem blankC_32 {l : List UInt8} (h : blankC l) : blankC (32 :: l) := by
  intro c hc
  rcases List.mem_cons.1 hc with h1 | h1
  · exact .inr h1
  · exact h c h1
theorem mName_plain (k : Nat) (h : k < 12) : (∀ c ∈ lsq (mName k), plainC c) ∧ lsq (mName k) ≠ [] := by
  have h1 : ∀ k : Fin 12, ((lsq (mName k.val)).all (fun c => c != 92 && c != 34 && !partsB c) && !(lsq (mName k.val)).isEmpty) = true := by decide
  have h2 := h1 ⟨k, h⟩
  rw [Bool.and_eq_true, List.all_eq_true] at h2
  refine ⟨fun c hc => ?_, ?_⟩
  · have := h2.1 c hc
    simp at this
    exact ⟨this.1.1, this.1.2, this.2⟩
  · intro e
    have := h2.2
    simp only [] at this
    rw [e] at this
    simp at this
theorem day_cw (d : Nat) (h : d < 100) : (∃ x, cw (lsq (dayB d)) false [] = [x]) ∧ blankC (lsq (dayB d)) := by
  unfold dayB
  split
  · rename_i h1
    rw [lsq_strB]
    have hp := dv_plain d h1
    refine ⟨⟨strB [dv d], ?_⟩, ?_⟩
    · have := cw_blanks 1 [dv d]
      rw [show List.replicate 1 (32 : UInt8) ++ [dv d] = [32, dv d] from rfl] at this
      rw [this]
      exact cw_one (by simp) (by intro c hc; rw [List.mem_singleton] at hc; rw [hc]; exact hp.2.2)
    · refine blankC_32 (blankC_of ?_)
      intro c hc; rw [List.mem_singleton] at hc; rw [hc]; exact hp
  · have ht := two_plain d h
    exact ⟨⟨_, cw_one (by unfold twoB; rw [lsq_strB]; simp) (bare_of ht)⟩, blankC_of ht⟩
theorem dateS_words (y : Int) (m d h i : Nat) (hm : m - 1 < 12) (hd : d < 100) (hh : h < 100) (hi : i < 100) :
    (cw (lsq (dateS y m d h i)) false []).length = 4 ∧ blankC (lsq (dateS y m d h i)) := by
  obtain ⟨n1, n2⟩ := mName_plain (m - 1) hm
  obtain ⟨⟨dx, d1⟩, d2⟩ := day_cw d hd
  have h1 := two_plain h hh
  have i1 := two_plain i hi
  obtain ⟨y1, y2⟩ := itoa_plain y
  have e : lsq (dateS y m d h i) = lsq (mName (m - 1)) ++ 32 :: (lsq (dayB d) ++ 32 :: ((lsq (twoB h) ++ 58 :: lsq (twoB i)) ++ 32 :: Lib.itoa y)) := by
    unfold dateS yearB
    simp only [lsq_app]
    have e1 : lsq ⟨#[32]⟩ = [32] := rfl
    have e2 : lsq ⟨#[58]⟩ = [58] := rfl
    have e3 : lsq ⟨(Lib.itoa y).toArray⟩ = Lib.itoa y := by unfold lsq; simp
    rw [e1, e2, e3]
    simp
  have hc : ∀ c ∈ lsq (twoB h) ++ 58 :: lsq (twoB i), plainC c := by
    intro c hc
    rcases List.mem_append.1 hc with hc | hc
    · exact h1 c hc
    · rcases List.mem_cons.1 hc with rfl | hc
      · exact plainC_of (.inr (by decide))
      · exact i1 c hc
  rw [e]
  refine ⟨?_, ?_⟩
  · rw [cw_two n1 n2, cw_app _ _ 32 (by decide), d1, cw_two hc (by simp), cw_one y2 (bare_of y1)]
    rfl
  · exact blankC_app (blankC_of n1) (blankC_32 (blankC_app d2 (blankC_32 (blankC_app (blankC_of hc) (blankC_32 (blankC_of y1))))))
theorem dateT_words (s : Int) : (cw (lsq (dateT s)) false []).length = 4 ∧ blankC (lsq (dateT s)) := by
  rcases dateT_ways s with h | ⟨y, m, d, h1, hD, h⟩
  · rw [h]
    refine ⟨by decide, ?_⟩
    intro c hc
    have h1 : (lsq qs).all (fun c => (c != 92 && c != 34 && !partsB c) || c == 32) = true := by decide
    rw [List.all_eq_true] at h1
    have := h1 c hc
    simp at this
    rcases this with h | h
    · exact .inl ⟨h.1.1, h.1.2, h.2⟩
    · exact .inr h
  · rw [h]
    have hl := ml_le y m
    obtain ⟨_, m1, m2, d1, d2, _⟩ := hD
    exact dateS_words _ _ _ _ _ (by omega) (by omega) (by omega) (by omega)
theorem itB_plain (n : Int) : (∀ c ∈ lsq (itB n), plainC c) ∧ lsq (itB n) ≠ [] := by
  have e : lsq (itB n) = Lib.itoa n := by unfold itB lsq; simp
  rw [e]; exact itoa_plain n
theorem own_plain (a b : Int) : (∀ c ∈ lsq (itB a ++ ⟨#[47]⟩ ++ itB b), plainC c) ∧ lsq (itB a ++ ⟨#[47]⟩ ++ itB b) ≠ [] := by
  obtain ⟨a1, a2⟩ := itB_plain a
  obtain ⟨b1, b2⟩ := itB_plain b
  have e1 : lsq ⟨#[47]⟩ = [47] := rfl
  rw [lsq_app, lsq_app, e1]
  refine ⟨fun c hc => ?_, by simp⟩
  rcases List.mem_append.1 hc with hc | hc
  · rcases List.mem_append.1 hc with hc | hc
    · exact a1 c hc
    · rw [List.mem_singleton] at hc; rw [hc]; exact plainC_of (.inr (by decide))
  · exact b1 c hc
theorem padB_list (s : ByteArray) : lsq (padB s) = List.replicate (lackN s 6) 32 ++ lsq s := by
  unfold padB spB; rw [lsq_app, lsq_strB]
theorem rep_blank (k : Nat) : blankC (List.replicate k 32) := fun c hc => .inr (List.eq_of_mem_replicate hc)
/-- a line ahead of its newline -/
def lineL (m : Mx) : List UInt8 := lsq (modeB m.m) ++ 32 :: (lsq (itB m.u ++ ⟨#[47]⟩ ++ itB m.g) ++ 32 :: (lsq (padB (itB m.s)) ++ 32 :: (lsq (dateT m.d) ++ 32 :: QL m.n)))
theorem line_list (m : Mx) : lsq (lineB m) = lineL m ++ [10] := by
  unfold lineB lineL
  simp only [lsq_app, lsq_strB]
  have e1 : lsq ⟨#[32]⟩ = [32] := rfl
  have e2 : lsq ⟨#[10]⟩ = [10] := rfl
  rw [e1, e2]
  simp
theorem line_nonl (m : Mx) : ∀ c ∈ lineL m, c ≠ 10 := by
  obtain ⟨a1, _⟩ := mode_plain m.m
  obtain ⟨b1, _⟩ := own_plain m.u m.g
  obtain ⟨c1, _⟩ := itB_plain m.s
  obtain ⟨_, d1⟩ := dateT_words m.d
  have hb : blankC (lsq (modeB m.m) ++ 32 :: (lsq (itB m.u ++ ⟨#[47]⟩ ++ itB m.g) ++ 32 :: (lsq (padB (itB m.s)) ++ 32 :: (lsq (dateT m.d) ++ [32])))) := by
    rw [padB_list]
    exact blankC_app (blankC_of a1) (blankC_32 (blankC_app (blankC_of b1) (blankC_32 (blankC_app (blankC_app (rep_blank _) (blankC_of c1)) (blankC_32 (blankC_app d1 (blankC_32 (fun c hc => by cases hc))))))))
  intro c hc
  have e : lineL m = (lsq (modeB m.m) ++ 32 :: (lsq (itB m.u ++ ⟨#[47]⟩ ++ itB m.g) ++ 32 :: (lsq (padB (itB m.s)) ++ 32 :: (lsq (dateT m.d) ++ [32])))) ++ QL m.n := by unfold lineL; simp
  rw [e] at hc
  rcases List.mem_append.1 hc with hc | hc
  · exact blankC_nonl hb c hc
  · intro q
    have := quote_ge (lsq m.n) c hc
    rw [q] at this
    exact absurd this (by decide)
theorem line_words (m : Mx) : wordsL (lsq (lineB m)) = .inr ([modeB m.m, itB m.u ++ ⟨#[47]⟩ ++ itB m.g, itB m.s] ++ cw (lsq (dateT m.d)) false [] ++ [m.n]) := by
  obtain ⟨a1, a2⟩ := mode_plain m.m
  obtain ⟨b1, b2⟩ := own_plain m.u m.g
  obtain ⟨c1, c2⟩ := itB_plain m.s
  obtain ⟨_, d1⟩ := dateT_words m.d
  have hp : blankC (lsq (padB (itB m.s))) := by rw [padB_list]; exact blankC_app (rep_blank _) (blankC_of c1)
  rw [line_list]
  unfold wordsL lineL
  simp only [List.append_assoc, List.cons_append]
  rw [scan_cwK _ _ (clean_of a1) 32 (by decide), scan_cwK _ _ (clean_of b1) 32 (by decide), scan_cwK _ _ (blankC_clean hp) 32 (by decide), scan_cwK _ _ (blankC_clean d1) 32 (by decide)]
  unfold QL
  rw [scan_quoteL, scan_part _ _ _ _ _ (by decide), scan_nil, cw_one a2 (bare_of a1), cw_one b2 (bare_of b1), padB_list, cw_blanks, cw_one c2 (bare_of c1)]
  simp only [strB_lsq]
  simp [endW, strB_lsq]
end Go.Proofs.YtjpoifoejbabiabDoor

-- ShowLineReads' walk, over any Line that tells so.
namespace Go.Proofs.YtjpoifoejbabiabDoor
open Go.ChangeShapes Go.WideShapes Go.ChangeAt Go.RowKit
set_option linter.unusedVariables false
set_option maxRecDepth 100000
set_option linter.unusedSimpArgs false
theorem row_words (S : ByteArray) (ws : List ByteArray) (h : wordsL (lst S) = .inr ws) (hne : ws ≠ []) (hs : S.size ≤ 33554432) (W : World) : Calls Tryd.prog 8 #[.string S] W fun e w' => Below W.heap.size W w' ∧ ∃ g o cap, e = .returned (.tuple #[.slice (some ⟨g, o, none⟩) ws.length cap, .int .i64 0, .int .i64 0]) ∧ ∀ k x, ws[k]? = some x → w'.cell? ⟨g, o + k, none⟩ = some (.string x) := by
  refine (words_c S W hs).mono ?_
  rintro e w' ⟨hb, hg⟩
  rw [h] at hg
  obtain ⟨v, rfl, ho⟩ := hg
  rw [strV_flat] at ho
  have hr : RowT w' v ws := OwnT.row ho
  cases ws with
  | nil => exact absurd rfl hne
  | cons a r =>
    obtain ⟨b, off, cap, e1, _⟩ := hr.tx (k := 0) (x := a) rfl
    refine ⟨hb, b, off, cap, by rw [e1], fun k x hx => ?_⟩
    obtain ⟨b2, off2, cap2, e2, c2⟩ := hr.tx hx
    rw [e1] at e2
    injection e2 with e2
    injection e2 with e2
    injection e2 with e3 e4
    rw [e3, e4]; exact c2
theorem emp_beqL {q : ByteArray} (h : q.size ≠ 0) : (q.toList == []) = false := by
  rw [ByteArray.toList_eq]
  have h2 : q.data.toList.length ≠ 0 := by simpa using h
  cases hl : q.data.toList with
  | nil => rw [hl] at h2; exact absurd rfl h2
  | cons a r => rfl
theorem len4L {α : Type} {l : List α} (h : l.length = 4) : ∃ a b c d, l = [a, b, c, d] := by
  match l, h with
  | [a, b, c, d], _ => exact ⟨a, b, c, d, rfl⟩
set_option maxHeartbeats 8000000 in
theorem showLineReads_w (HP0 : LineOk 7) (x : Mx) (hx : okM x) (hn : x.n.size ≤ 1048576) (w : World) (hT : LTabs w) :
    Calls Tryd.prog 3 #[.agg (mxL x).toArray] w fun e w' => e = .returned (.bool true) ∧ Below w.heap.size w w' := by
  have hlw := line_words x
  have hls := line_list x
  have hnl := line_nonl x
  have hsz := lineB_size hx
  have HP : Hid (∀ W, Below w.heap.size w W → Calls Tryd.prog 7 #[.agg (mxL x).toArray] W fun e w' => e = .returned (.string (lineB x)) ∧ Below W.heap.size W w') := fun W hb => HP0 x W hx (by omega) (hT.on hb)
  obtain ⟨S, hS⟩ : ∃ S, S = lineB x := ⟨_, rfl⟩
  obtain ⟨LL, hLL⟩ : ∃ LL, LL = lineL x := ⟨_, rfl⟩
  rw [← hS] at HP hlw hls hsz
  rw [← hLL] at hls hnl
  obtain ⟨dd, uu, gg, mm, nn, zz, dt⟩ := x
  obtain ⟨i1, i2, i3, i4, i5⟩ := hx
  simp only [] at i1 i2 i3 i4 i5 hn hlw hsz
  simp only [mxL] at HP ⊢
  obtain ⟨A, hA⟩ : ∃ A, A = modeB mm := ⟨_, rfl⟩
  obtain ⟨U, hU⟩ : ∃ U, U = itB uu := ⟨_, rfl⟩
  obtain ⟨G, hG⟩ : ∃ G, G = itB gg := ⟨_, rfl⟩
  obtain ⟨Y, hY⟩ : ∃ Y, Y = itB zz := ⟨_, rfl⟩
  obtain ⟨D, hD⟩ : ∃ D, D = dateT dd := ⟨_, rfl⟩
  have hdw := dateT_words dd
  have hDs : D.size ≤ 200 := by rw [hD]; exact dateT_size dd
  have hUs : U.size ≤ 21 := by rw [hU]; exact itB_size i2
  have hGs : G.size ≤ 21 := by rw [hG]; exact itB_size i3
  rw [← hA, ← hU, ← hG, ← hY, ← hD] at hlw
  rw [← hD] at hdw
  obtain ⟨d0, d1, d2, d3, h4⟩ := len4L hdw.1
  rw [h4] at hlw
  obtain ⟨P1, h1⟩ : ∃ P, U ++ ⟨#[47]⟩ = P := ⟨_, rfl⟩
  have s1 : P1.size ≤ 22 := by rw [← h1, ByteArray.size_append]; have : (⟨#[47]⟩ : ByteArray).size = 1 := rfl; omega
  have q2 : ¬ (9223372036854775807 < P1.size + G.size) := by omega
  have q1 : ¬ (9223372036854775807 < U.size + 1) := by omega
  obtain ⟨O, h2⟩ : ∃ P, P1 ++ G = P := ⟨_, rfl⟩
  rw [h1, h2] at hlw
  have HWS := hidK (row_words S [A, O, Y, d0, d1, d2, d3, nn] hlw (by simp) (by omega))
  have hdl : wordsL (lst D) = .inr [d0, d1, d2, d3] := by
    have := scan_cw (lsq D) (blankC_clean hdw.2) 0 false [] []
    rw [h4] at this
    exact this
  have HWD := hidK (row_words D [d0, d1, d2, d3] hdl (by simp) (by omega))
  have hSz : S.size = LL.length + 1 := by rw [← lsq_size, hls, List.length_append]; rfl
  have hlast : ∀ w, (Instr.index 9 (.string S) (.int .i64 ((S.size : Int) - 1))).run Tryd.prog w = .ok (.int .u8 10) w := by
    intro w
    have h5 := idx S (S.size - 1) (by omega) w
    have e1 : ((S.size - 1 : Nat) : Int) = (S.size : Int) - 1 := by omega
    rw [e1] at h5
    rw [h5]
    have h6 := getB S (S.size - 1) (by omega)
    have h7 : (lsq S)[S.size - 1]'(by rw [lsq_size]; omega) = 10 := by
      simp only [hls]
      rw [List.getElem_append_right (by omega)]
      simp
    rw [← h6, h7]; rfl
  have HI : Hid (∀ k (h : k + 1 < S.size), ((((S[k]'(Nat.lt_of_succ_lt h)).toNat : Nat) : Int) == 10) = false) := by
    intro k h
    have h5 := getB S k (by omega)
    have h6 : (lsq S)[k]'(by rw [lsq_size]; omega) = LL[k]'(by omega) := by
      simp only [hls]
      rw [List.getElem_append_left (by omega)]
    have h7 := hnl _ (List.getElem_mem (show k < LL.length by omega))
    rw [← h5, h6]
    refine beq_eq_false_iff_ne.2 fun e => h7 ?_
    apply UInt8.toNat_inj.1
    have : (LL[k]'(by omega)).toNat = 10 := by omega
    rw [this]; rfl
  have hemp : (S.toList == []) = false := emp_beqL (by omega)
  have hemp2 : S.toList.isEmpty = false := by rw [ByteArray.toList_eq]; rw [ByteArray.toList_eq] at hemp; cases h : S.data.toList with | nil => rw [h] at hemp; cases hemp | cons a r => rfl
  have hw1 : IntKind.i64.wrap ((S.size : Int) - 1) = (S.size : Int) - 1 := by rw [IntKind.wrap_i64]; omega
  have HSZ := hidK hSz
  have HT := hidK hT
  have HUE := hidK hU
  have HGE := hidK hG
  have HAE := hidK hA
  have HYE := hidK hY
  have HDE := hidK hD
  have hB0 : Below w.heap.size w (w.alloc (.cells #[.int .i64 dd, .int .i64 uu, .int .i64 gg, .int .i64 mm, .string nn, .int .i64 zz, .string dt] 25)) := bupK (Below.refl _ _) _
  have hP0 := heap_alloc_new w (.cells #[.int .i64 dd, .int .i64 uu, .int .i64 gg, .int .i64 mm, .string nn, .int .i64 zz, .string dt] 25)
  clear hS hLL hA hU hG hY hD hT HP0 hlw hls hnl hdw h4 hdl hSz
  go_enter Tryd.func3, Tryd.ntmps3
  go_upto_region 2 with (go_at_call 7; refine (HP.out _ hB0).mono ?_; rintro e w1 ⟨rfl, hb1⟩)
  have hB1 := bel3K hB0 hb1
  have hP1 := hkeepK hb1 hP0
  clear hP0 hb1 HP hB0
  go_upto_region 3 with (go_at_call 8; refine (HWS.out _).mono ?_; rintro e w2 ⟨hb2, g, o, cap, rfl, hc2⟩)
  have HB2 := hidK (bel3K hB1 hb2)
  have HP2 := hidK (hkeepK hb2 hP1)
  have HC2 := hidK hc2
  clear hB1 hb2 hP1 hc2 HWS
  go_upto_region 5 with fail
  go_wp2
  go_loopw [7] (fun i wx => ∃ k : Nat, i = .int .i64 k ∧ k + 1 ≤ S.size ∧ wx = w2) (fun i _ => S.size - (intOf i).toNat)
  case atStart => exact ⟨0, rfl, by have := HSZ.out; omega, rfl⟩
  case round =>
    obtain ⟨k, rfl, hk1, rfl⟩ := hrel
    have kw : IntKind.i64.wrap ((k : Int) + 1) = (k : Int) + 1 := by rw [IntKind.wrap_i64]; omega
    by_cases hk : k + 1 < S.size
    · have kI : (k : Int) + 1 < (S.size : Int) := by omega
      have kI2 : (k : Int) < (S.size : Int) := by omega
      have k0 : (0 : Int) ≤ (k : Int) := by omega
      have hix := idx S k (by omega)
      have hne := HI.out k hk
      go_wp2
      go_roundw
      case rel => exact ⟨k + 1, by go_num, by omega, by first | rfl | trivial⟩
      case measure => simp [intOf]; omega
    · have kI : ¬ ((k : Int) + 1 < (S.size : Int)) := by omega
      have x0 := cell_rowK HP2.out 0 _ rfl
      go_upto_region 10 with fail
      go_upto_region 11 with (first | (go_at_call 9; refine (date_c dd _ (HT.out.on HB2.out)).mono ?_; rintro e w3 ⟨rfl, hb3⟩; rw [← HDE.out]) | (go_at_call 8; refine (HWD.out _).mono ?_; rintro e w4 ⟨hb4, g2, o2, cap2, rfl, hc4⟩))
      have hB4 := bel3K hb3 hb4
      have HB4 := hidK (bel3K HB2.out hB4)
      have HP4 := hidK (hkeepK hB4 HP2.out)
      have HC4 := hidK (fun k x h => cell_onG (HC2.out k x h) hB4)
      have HD4 := hidK hc4
      clear hb3 hb4 hB4 hc4 HC2 HP2 x0 kI hk hk1 kw
      go_upto_region 13 with fail
      go_wp2
      go_loopw [11] (fun i wx => ∃ k : Nat, i = .int .i64 k ∧ k ≤ 4 ∧ Below w4.heap.size w4 wx) (fun i _ => 4 - (intOf i).toNat)
      case atStart => exact ⟨0, rfl, by omega, Below.refl _ _⟩
      case round =>
        obtain ⟨k, rfl, hk4, hB⟩ := hrel
        by_cases hk : k < 4
        · have kI : (k : Int) < 4 := by omega
          have kI2 : (3 : Int) + (k : Int) < 8 := by omega
          have k0 : (0 : Int) ≤ (k : Int) := by omega
          have k1 : (0 : Int) ≤ 3 + (k : Int) := by omega
          have kt : ((3 : Int) + (k : Int)).toNat = 3 + k := by omega
          have kw : IntKind.i64.wrap ((3 : Int) + (k : Int)) = 3 + (k : Int) := by rw [IntKind.wrap_i64]; omega
          obtain ⟨dk, hd1, hd2⟩ : ∃ dk, [d0, d1, d2, d3][k]? = some dk ∧ [A, O, Y, d0, d1, d2, d3, nn][3 + k]? = some dk := by
            match k, hk with
            | 0, _ => exact ⟨d0, rfl, rfl⟩
            | 1, _ => exact ⟨d1, rfl, rfl⟩
            | 2, _ => exact ⟨d2, rfl, rfl⟩
            | 3, _ => exact ⟨d3, rfl, rfl⟩
          have f0 := cell_onG (HC4.out _ _ hd2) hB
          have f1 := cell_onG (HD4.out _ _ hd1) hB
          clear hd1 hd2
          go_wp2
          go_quiet (fail)
          have hB9 := belDrewN hB nq
          go_wp2
          go_roundw
          case rel => exact ⟨k + 1, by go_num, by omega, hB9⟩
          case measure => simp [intOf]; omega
        · obtain rfl : k = 4 := by omega
          go_upto_region 18 with fail
          have HB5 := hidK (bel3K HB4.out hB)
          have HP5 := hidK (hkeepK hB HP4.out)
          have HC5 := hidK (fun k x h => cell_onG (HC4.out k x h) hB)
          have hSw : wr.cell? ⟨w.heap.size, 1, none⟩ = some (.int .i64 uu) ∧ wr.cell? ⟨w.heap.size, 2, none⟩ = some (.int .i64 gg) ∧ Below wr.heap.size wr wr := ⟨cell_rowK HP5.out 1 _ rfl, cell_rowK HP5.out 2 _ rfl, Below.refl _ _⟩
          have HU5 : Hid (∀ wx, (wx.cell? ⟨w.heap.size, 1, none⟩ = some (.int .i64 uu) ∧ wx.cell? ⟨w.heap.size, 2, none⟩ = some (.int .i64 gg) ∧ Below wr.heap.size wr wx) → Calls Tryd.prog 10 #[.int .i64 uu] wx fun e w' => e = .returned (.string U) ∧ (w'.cell? ⟨w.heap.size, 1, none⟩ = some (.int .i64 uu) ∧ w'.cell? ⟨w.heap.size, 2, none⟩ = some (.int .i64 gg) ∧ Below wr.heap.size wr w')) := fun wx hS => (itoa_c i2 wx (HT.out.on (bel3K HB5.out hS.2.2))).mono fun e w' ⟨he, hb⟩ => ⟨by rw [he, HUE.out], cell_onG hS.1 hb, cell_onG hS.2.1 hb, bel3K hS.2.2 hb⟩
          have HG5 : Hid (∀ wx, (wx.cell? ⟨w.heap.size, 1, none⟩ = some (.int .i64 uu) ∧ wx.cell? ⟨w.heap.size, 2, none⟩ = some (.int .i64 gg) ∧ Below wr.heap.size wr wx) → Calls Tryd.prog 10 #[.int .i64 gg] wx fun e w' => e = .returned (.string G) ∧ (w'.cell? ⟨w.heap.size, 1, none⟩ = some (.int .i64 uu) ∧ w'.cell? ⟨w.heap.size, 2, none⟩ = some (.int .i64 gg) ∧ Below wr.heap.size wr w')) := fun wx hS => (itoa_c i3 wx (HT.out.on (bel3K HB5.out hS.2.2))).mono fun e w' ⟨he, hb⟩ => ⟨by rw [he, HGE.out], cell_onG hS.1 hb, cell_onG hS.2.1 hb, bel3K hS.2.2 hb⟩
          clear HB4 HP4 HC4 HD4 hB
          go_region_held3 (fun w' => (w'.cell? ⟨w.heap.size, 1, none⟩ = some (.int .i64 uu) ∧ w'.cell? ⟨w.heap.size, 2, none⟩ = some (.int .i64 gg) ∧ Below wr.heap.size wr w')) (first | assumption | exact ⟨hSw.1, hSw.2.1, hSw.2.2.drew⟩) (first
            | (go_at_call_of 10 (Value.int IntKind.i64 uu); refine (HU5.out _ (by assumption)).mono ?_; rintro e w' ⟨rfl, hS'⟩)
            | (go_at_call_of 10 (Value.int IntKind.i64 gg); refine (HG5.out _ (by assumption)).mono ?_; rintro e w' ⟨rfl, hS'⟩))
          have hb6 := hS'.2.2
          have HQ : Hid (∀ wx, (wx.cell? ⟨g, o, none⟩ = some (.string A) ∧ wx.cell? ⟨g, o + 1, none⟩ = some (.string O) ∧ wx.cell? ⟨g, o + 2, none⟩ = some (.string Y) ∧ wx.cell? ⟨g, o + 7, none⟩ = some (.string nn) ∧ wx.cell? ⟨w.heap.size, 3, none⟩ = some (.int .i64 mm) ∧ wx.cell? ⟨w.heap.size, 4, none⟩ = some (.string nn) ∧ wx.cell? ⟨w.heap.size, 5, none⟩ = some (.int .i64 zz) ∧ Below wr.heap.size wr wx) → ∀ w'' : World, Below wx.heap.size wx w'' → (w''.cell? ⟨g, o, none⟩ = some (.string A) ∧ w''.cell? ⟨g, o + 1, none⟩ = some (.string O) ∧ w''.cell? ⟨g, o + 2, none⟩ = some (.string Y) ∧ w''.cell? ⟨g, o + 7, none⟩ = some (.string nn) ∧ w''.cell? ⟨w.heap.size, 3, none⟩ = some (.int .i64 mm) ∧ w''.cell? ⟨w.heap.size, 4, none⟩ = some (.string nn) ∧ w''.cell? ⟨w.heap.size, 5, none⟩ = some (.int .i64 zz) ∧ Below wr.heap.size wr w'')) := fun wx hS w'' hb => ⟨cell_onG hS.1 hb, cell_onG hS.2.1 hb, cell_onG hS.2.2.1 hb, cell_onG hS.2.2.2.1 hb, cell_onG hS.2.2.2.2.1 hb, cell_onG hS.2.2.2.2.2.1 hb, cell_onG hS.2.2.2.2.2.2.1 hb, bel3K hS.2.2.2.2.2.2.2 hb⟩
          have HM19 : Hid (∀ wx, (wx.cell? ⟨g, o, none⟩ = some (.string A) ∧ wx.cell? ⟨g, o + 1, none⟩ = some (.string O) ∧ wx.cell? ⟨g, o + 2, none⟩ = some (.string Y) ∧ wx.cell? ⟨g, o + 7, none⟩ = some (.string nn) ∧ wx.cell? ⟨w.heap.size, 3, none⟩ = some (.int .i64 mm) ∧ wx.cell? ⟨w.heap.size, 4, none⟩ = some (.string nn) ∧ wx.cell? ⟨w.heap.size, 5, none⟩ = some (.int .i64 zz) ∧ Below wr.heap.size wr wx) → Calls Tryd.prog 11 #[.int .i64 mm] wx fun e w'' => e = .returned (.string A) ∧ (w''.cell? ⟨g, o, none⟩ = some (.string A) ∧ w''.cell? ⟨g, o + 1, none⟩ = some (.string O) ∧ w''.cell? ⟨g, o + 2, none⟩ = some (.string Y) ∧ w''.cell? ⟨g, o + 7, none⟩ = some (.string nn) ∧ w''.cell? ⟨w.heap.size, 3, none⟩ = some (.int .i64 mm) ∧ w''.cell? ⟨w.heap.size, 4, none⟩ = some (.string nn) ∧ w''.cell? ⟨w.heap.size, 5, none⟩ = some (.int .i64 zz) ∧ Below wr.heap.size wr w'')) := fun wx hS => (mode_c mm wx (HT.out.on (bel3K HB5.out hS.2.2.2.2.2.2.2))).mono fun e w'' ⟨he, hb⟩ => ⟨by rw [he, HAE.out], HQ.out wx hS w'' hb⟩
          have HZ19 : Hid (∀ wx, (wx.cell? ⟨g, o, none⟩ = some (.string A) ∧ wx.cell? ⟨g, o + 1, none⟩ = some (.string O) ∧ wx.cell? ⟨g, o + 2, none⟩ = some (.string Y) ∧ wx.cell? ⟨g, o + 7, none⟩ = some (.string nn) ∧ wx.cell? ⟨w.heap.size, 3, none⟩ = some (.int .i64 mm) ∧ wx.cell? ⟨w.heap.size, 4, none⟩ = some (.string nn) ∧ wx.cell? ⟨w.heap.size, 5, none⟩ = some (.int .i64 zz) ∧ Below wr.heap.size wr wx) → Calls Tryd.prog 10 #[.int .i64 zz] wx fun e w'' => e = .returned (.string Y) ∧ (w''.cell? ⟨g, o, none⟩ = some (.string A) ∧ w''.cell? ⟨g, o + 1, none⟩ = some (.string O) ∧ w''.cell? ⟨g, o + 2, none⟩ = some (.string Y) ∧ w''.cell? ⟨g, o + 7, none⟩ = some (.string nn) ∧ w''.cell? ⟨w.heap.size, 3, none⟩ = some (.int .i64 mm) ∧ w''.cell? ⟨w.heap.size, 4, none⟩ = some (.string nn) ∧ w''.cell? ⟨w.heap.size, 5, none⟩ = some (.int .i64 zz) ∧ Below wr.heap.size wr w'')) := fun wx hS => (itoa_c i5 wx (HT.out.on (bel3K HB5.out hS.2.2.2.2.2.2.2))).mono fun e w'' ⟨he, hb⟩ => ⟨by rw [he, HYE.out], HQ.out wx hS w'' hb⟩
          have hSw2 := And.intro (by simpa using cell_onG (HC5.out 0 A rfl) hb6 : _ = some (Value.string A)) (And.intro (cell_onG (HC5.out 1 O rfl) hb6) (And.intro (cell_onG (HC5.out 2 Y rfl) hb6) (And.intro (cell_onG (HC5.out 7 nn rfl) hb6) (And.intro (cell_onG (cell_rowK HP5.out 3 _ rfl) hb6) (And.intro (cell_onG (cell_rowK HP5.out 4 _ rfl) hb6) (And.intro (cell_onG (cell_rowK HP5.out 5 _ rfl) hb6) hb6))))))
          clear HU5 HG5 hSw hS' HQ
          go_upto_region 19 with fail
          go_region_held3 (fun w' => (w'.cell? ⟨g, o, none⟩ = some (.string A) ∧ w'.cell? ⟨g, o + 1, none⟩ = some (.string O) ∧ w'.cell? ⟨g, o + 2, none⟩ = some (.string Y) ∧ w'.cell? ⟨g, o + 7, none⟩ = some (.string nn) ∧ w'.cell? ⟨w.heap.size, 3, none⟩ = some (.int .i64 mm) ∧ w'.cell? ⟨w.heap.size, 4, none⟩ = some (.string nn) ∧ w'.cell? ⟨w.heap.size, 5, none⟩ = some (.int .i64 zz) ∧ Below wr.heap.size wr w')) (first | assumption | exact hSw2 | exact ⟨hSw2.1, hSw2.2.1, hSw2.2.2.1, hSw2.2.2.2.1, hSw2.2.2.2.2.1, hSw2.2.2.2.2.2.1, hSw2.2.2.2.2.2.2.1, hSw2.2.2.2.2.2.2.2.drew⟩) (first
            | (go_at_call 11; refine (HM19.out _ (by assumption)).mono ?_; rintro e w' ⟨rfl, hS'⟩)
            | (go_at_call 10; refine (HZ19.out _ (by assumption)).mono ?_; rintro e w' ⟨rfl, hS'⟩))
          go_wp2
          go_ret
          exact ⟨by simp, bel3K HB5.out hS'.2.2.2.2.2.2.2⟩
end Go.Proofs.YtjpoifoejbabiabDoor
