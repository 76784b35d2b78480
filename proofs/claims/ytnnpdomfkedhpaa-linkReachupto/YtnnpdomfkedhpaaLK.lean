
-- A link, plainly.
import Derived.Test.YtnnpdomfkedhpaaSC
namespace Go.Proofs.Ytnnpdomfkedhpaa
set_option linter.unusedVariables false
set_option maxRecDepth 100000
structure Lk where
  d : List ByteArray
  w : List ByteArray
  p : List (Int × Int)
def defN (s : Lk) (n : ByteArray) : Lk := ⟨if isIn s.d n then s.d else s.d ++ [n], woN s.w n, s.p⟩
def wantN (s : Lk) (n : ByteArray) : Lk := if isIn s.d n || isIn s.w n then s else ⟨s.d, s.w ++ [n], s.p⟩
def pullN (s : Lk) (x : Int × Int) (ds ns : List ByteArray) : Lk := ns.foldl wantN (ds.foldl defN ⟨s.d, s.w, s.p ++ [x]⟩)
structure Lb where
  e : List (ByteArray × Int)
  a : List Int
  n : List ByteArray
  df : List (List ByteArray)
  nd : List (List ByteArray)
def oneN (L : Lb) (num : Int) (s : Lk) (x : ByteArray × Int) : Lk :=
  if isIn s.w x.1 then (match idx L.a x.2 with
    | none => s
    | some i => if isIn s.p (num, x.2) then s else pullN s (num, x.2) (L.df.getD i []) (L.nd.getD i [])) else s
def passN (L : Lb) (num : Int) (s : Lk) : Lk := L.e.foldl (oneN L num) s
/-- the raw list of what is wanted -/
def RawOk (s : Lk) (r : List ByteArray) : Prop := r.filter (isIn s.w) = s.w ∧ ∀ x ∈ r, x ∉ s.w → x ∈ s.d
theorem defN_p (s : Lk) (n : ByteArray) : (defN s n).p = s.p := rfl
theorem wantN_p (s : Lk) (n : ByteArray) : (wantN s n).p = s.p := by unfold wantN; split <;> rfl
theorem foldD_p (l : List ByteArray) : ∀ s : Lk, (l.foldl defN s).p = s.p := by
  induction l with
  | nil => intro s; rfl
  | cons x r ih => intro s; rw [List.foldl_cons, ih, defN_p]
theorem foldW_p (l : List ByteArray) : ∀ s : Lk, (l.foldl wantN s).p = s.p := by
  induction l with
  | nil => intro s; rfl
  | cons x r ih => intro s; rw [List.foldl_cons, ih, wantN_p]
theorem pullN_p (s : Lk) (x : Int × Int) (ds ns : List ByteArray) : (pullN s x ds ns).p = s.p ++ [x] := by
  unfold pullN; rw [foldW_p, foldD_p]
theorem raw_def {s : Lk} {r : List ByteArray} (h : RawOk s r) (n : ByteArray) : RawOk (defN s n) r := by
  refine ⟨?_, fun x hx hn => ?_⟩
  · have e : r.filter (isIn (woN s.w n)) = (r.filter (isIn s.w)).filter (fun z => decide (z ≠ n)) := by
      rw [List.filter_filter]
      apply List.filter_congr
      intro x _
      rw [Bool.eq_iff_iff, isIn_iff, mem_woN]
      simp [isIn_iff, and_comm]
    show r.filter (isIn (woN s.w n)) = woN s.w n
    rw [e, h.1]; rfl
  · show x ∈ (if isIn s.d n then s.d else s.d ++ [n])
    have hn' : ¬ (x ∈ s.w ∧ x ≠ n) := fun q => hn (mem_woN.2 q)
    by_cases hxn : x = n
    · subst hxn
      split
      · rename_i q; exact isIn_iff.1 q
      · simp
    · have : x ∈ s.d := h.2 x hx (fun q => hn' ⟨q, hxn⟩)
      split
      · exact this
      · simp [this]
/-- how the raw list grows -/
def wantR (s : Lk) (r : List ByteArray) (n : ByteArray) : List ByteArray := if isIn s.d n || isIn s.w n then r else r ++ [n]
theorem raw_want {s : Lk} {r : List ByteArray} (h : RawOk s r) (n : ByteArray) : RawOk (wantN s n) (wantR s r n) := by
  unfold wantN wantR
  by_cases hc : (isIn s.d n || isIn s.w n) = true
  · rw [if_pos hc, if_pos hc]; exact h
  · rw [if_neg hc, if_neg hc]
    simp only [Bool.or_eq_true, isIn_iff, not_or] at hc
    have hnr : n ∉ r := fun q => hc.1 (h.2 n q hc.2)
    refine ⟨?_, fun x hx hn => ?_⟩
    · have e : (r ++ [n]).filter (isIn (s.w ++ [n])) = r.filter (isIn s.w) ++ [n] := by
        rw [List.filter_append]
        congr 1
        · apply List.filter_congr
          intro x hx
          apply isIn_congr
          have : x ≠ n := fun q => hnr (q ▸ hx)
          simp [this]
        · simp [isIn_iff]
      show (r ++ [n]).filter (isIn (s.w ++ [n])) = s.w ++ [n]
      rw [e, h.1]
    · have hx' : x ∈ r ∨ x = n := by simpa using hx
      have hn' : x ∉ s.w ∧ x ≠ n := by
        refine ⟨fun q => hn ?_, fun q => hn ?_⟩
        · show x ∈ s.w ++ [n]; simp [q]
        · show x ∈ s.w ++ [n]; simp [q]
      rcases hx' with q | q
      · exact h.2 x q hn'.1
      · exact absurd q hn'.2
end Go.Proofs.Ytnnpdomfkedhpaa
