
-- Rows of one's own, sorted and turned round.
import Derived.Test.YtbmdclgndlddbaaSM
import Derived.Test.YtbmdclgndlddbaaAQ
import Derived.Shelf.SlicesQ.Reverse
namespace Go.Proofs.Ytbmdclgndlddbaa
open Go.ChangeShapes Go.WideShapes Go.ChangeAt Go.RowKit Go.Sort Go.Shelf Go.Lib
set_option linter.unusedVariables false
set_option maxRecDepth 100000
theorem flatK_toList {α : Type} [Inhabited α] (enc : α → List Value) (k : Nat) (hk : ∀ x, (enc x).length = k) (d : Array α) : (flatK enc k d).toList = d.toList.flatMap enc := by
  have hl : (d.toList.flatMap enc).length = d.size * k := by rw [flatG_len enc k hk, Array.length_toList]
  apply List.ext_getElem?
  intro t
  by_cases ht : t < d.size * k
  · have k0 : 0 < k := by
      rcases Nat.eq_zero_or_pos k with h | h
      · subst h; simp at ht
      · exact h
    have hq : t / k < d.size := Nat.div_lt_of_lt_mul (by rw [Nat.mul_comm]; exact ht)
    have hm : t % k < k := Nat.mod_lt _ k0
    have h1 := get_flatK enc k d t ht
    have hs : t < (flatK enc k d).size := by rw [size_flatK]; exact ht
    rw [getElem!_pos (flatK enc k d) t hs] at h1
    have h2 : (flatK enc k d).toList[t]? = some ((enc d[t / k]!)[t % k]!) := by
      rw [Array.getElem?_toList, Array.getElem?_eq_getElem hs, h1]
    have hx : d.toList[t / k]? = some d[t / k]! := by rw [Array.getElem?_toList, Array.getElem?_eq_getElem hq, getElem!_pos d (t / k) hq]
    have h3 := flatG_get hk d.toList (t / k) (t % k) _ hx hm
    have e : t / k * k + t % k = t := by have := Nat.div_add_mod t k; rw [Nat.mul_comm] at this; exact this
    rw [e] at h3
    rw [h2, h3]
    have hmm : t % k < (enc d[t / k]!).length := by rw [hk]; exact hm
    rw [List.getElem?_eq_getElem hmm, getElem!_pos (enc d[t / k]!) (t % k) hmm]
  · rw [List.getElem?_eq_none (by rw [Array.length_toList, size_flatK]; omega), List.getElem?_eq_none (by rw [hl]; omega)]
section
variable {α : Type} [Inhabited α] {enc : α → List Value} {k : Nat} {g e : Nat} {cur : Array Value} {w W : World} {d d' : Array α}
theorem holds_of (hk : ∀ x, (enc x).length = k) (h1 : w.heap[g]? = some (.cells cur e (0, 0))) (h2 : cur.toList.take (d.size * k) = d.toList.flatMap enc) : HoldsK enc k w g 0 d := by
  intro j hj
  rw [size_flatK] at hj
  have hs : j < (flatK enc k d).size := by rw [size_flatK]; exact hj
  have h3 : (flatK enc k d).toList[j]? = some (flatK enc k d)[j]! := by rw [Array.getElem?_toList, Array.getElem?_eq_getElem hs, getElem!_pos (flatK enc k d) j hs]
  rw [flatK_toList enc k hk, ← h2, List.getElem?_take_of_lt hj, Array.getElem?_toList] at h3
  rw [Nat.zero_add]
  exact ⟨cell_rowK h1 j _ h3, by simp [World.frozen?, h1]⟩
theorem row_of (hk : ∀ x, (enc x).length = k) (h1 : w.heap[g]? = some (.cells cur e (0, 0))) (hc : d'.size * k ≤ cur.size) (hW : SWK enc k w g 0 d' W) (hH : HoldsK enc k W g 0 d') : ∃ cur' : Array Value, W.heap[g]? = some (.cells cur' e (0, 0)) ∧ cur'.size = cur.size ∧ cur'.toList.take (d'.size * k) = d'.toList.flatMap enc ∧ Kp (fun b => b = g) w W := by
  obtain ⟨m, os, rfl⟩ := hW
  have hg := (Array.getElem?_eq_some_iff.1 h1).1
  have hb : ∀ b, b < w.heap.size → (sortWorldK enc k w g 0 m d' os).heap[b]? = if b = g then (w.heap[b]?).map (onCells (putCells id 0 (flatK enc k d'))) else w.heap[b]? := by
    intro b hbl
    unfold sortWorldK putRowK putRow mapBlock grow Go.Sort.ahead
    simp only []
    rw [Array.getElem?_append_left (by simpa using hbl), Array.getElem?_modify]
    by_cases e : g = b
    · rw [if_pos e, if_pos e.symm]
    · rw [if_neg e, if_neg (fun h => e h.symm)]
  have hbg := hb g hg
  rw [if_pos rfl, h1] at hbg
  have hbg2 : (sortWorldK enc k w g 0 m d' os).heap[g]? = some (.cells (putCells id 0 (flatK enc k d') cur) e (0, 0)) := hbg
  refine ⟨putCells id 0 (flatK enc k d') cur, hbg, by simp [putCells], ?_, rfl, rfl, rfl, by unfold sortWorldK putRowK putRow mapBlock grow Go.Sort.ahead; simp, fun b hbl hn => by rw [hb b hbl, if_neg hn]⟩
  rw [← flatK_toList enc k hk]
  apply List.ext_getElem?
  intro t
  by_cases ht : t < d'.size * k
  · have hs : t < (flatK enc k d').size := by rw [size_flatK]; exact ht
    have h2 := (hH t hs).1
    rw [Nat.zero_add] at h2
    rw [List.getElem?_take_of_lt ht, Array.getElem?_toList, Array.getElem?_toList, Array.getElem?_eq_getElem hs]
    unfold World.cell? at h2
    rw [hbg2] at h2
    simp only at h2
    rw [getElem!_pos (flatK enc k d') t hs] at h2
    simpa using h2
  · have hs2 : (putCells id 0 (flatK enc k d') cur).size = cur.size := by simp [putCells]
    rw [List.getElem?_eq_none (by rw [List.length_take]; omega), List.getElem?_eq_none (by rw [Array.length_toList, size_flatK]; omega)]
end
/-! the list of rows -/
def encP (p : Pr) : List Value := rwL p.1
theorem encP_len (p : Pr) : (encP p).length = 8 := rfl
theorem encP_one : ∀ p, ∀ u ∈ encP p, u.oneCell' = true := fun p => rwL_one p.1
instance : Inhabited Pr := ⟨(rw0, 0)⟩
abbrev OwR (F : Nat → Prop) := OwnF F rwL 8 31
theorem elR : El rwL 8 31 22 72 := ⟨Try.underlying22, ⟨.agg #[.string ⟨#[]⟩, .int .i64 0, .int .i64 0, .int .i64 0, .int .i64 0, .int .u64 0, .int .u64 0, .int .u8 0], by kernel_rfl, rfl⟩, rwL_len, by decide⟩
theorem flat_fst (D : List Pr) : D.flatMap encP = (D.map (·.1)).flatMap rwL := by rw [List.flatMap_map]; rfl
/-- a row of one's own with its block -/
theorem OwR.open {F : Nat → Prop} {w : World} {v : Value} {L : List Rw} (h : OwR F w v L) : (v = .slice none 0 0 ∧ L = []) ∨ ∃ g cap cur, v = .slice (some ⟨g, 0, none⟩) L.length cap ∧ L.length ≤ cap ∧ cap ≤ maxLen ∧ F g ∧ w.heap[g]? = some (.cells cur 31 (0, 0)) ∧ cur.size = cap * 8 ∧ cur.toList.take (L.length * 8) = L.flatMap rwL := by
  rcases h.1.2 with ⟨q, q'⟩ | ⟨g, cap, cur, q1, q2, q3, q4, q5, q6, q7⟩
  · exact .inl ⟨by rw [q], List.eq_nil_of_length_eq_zero q'⟩
  · exact .inr ⟨g, cap, cur, q1, q4, q5, h.2 g (by rw [q1]; rfl), q3, q6, q7⟩
theorem OwR.close {F : Nat → Prop} {w : World} {L : List Rw} {g n cap : Nat} {cur : Array Value} (hn : n = L.length) (h1 : L.length ≤ cap) (h2 : cap ≤ maxLen) (h3 : F g) (h4 : w.heap[g]? = some (.cells cur 31 (0, 0))) (h5 : cur.size = cap * 8) (h6 : cur.toList.take (L.length * 8) = L.flatMap rwL) : OwR F w (.slice (some ⟨g, 0, none⟩) n cap) L := by
  subst hn
  exact ⟨ownG_of rwL 8 rwL_len h4 (Nat.zero_le _) h1 h2 h5 h6 rfl, fun k hk => by simp [Value.ownBlock] at hk; subst hk; exact h3⟩
theorem stlA : StL Try.prog 8 := {
  mixed := by kernel_rfl
  f32 := Try.func22
  f37 := Try.func27
  f39 := Try.func29
  f40 := Try.func30
  t0 := Try.underlying0
  a0 := Try.isAgg0
  z0 := Try.sizeOf0
  v0 := Try.zeroValue0
  t3 := Try.underlying3
  a3 := Try.isAgg3
  z3 := Try.sizeOf3
  v3 := Try.zeroValue3
  t4 := Try.underlying4
  a4 := Try.isAgg4
  z4 := Try.sizeOf4
  v4 := Try.zeroValue4
  tU := Try.underlying51
  aU := Try.isAgg51
  zU := Try.sizeOf51
  vU := Try.zeroValue51
  tS := Try.underlying22
  aS := Try.isAgg22
  zS := Try.sizeOf22
  vS := Try.zeroValue22
  tC := Try.underlying40
  aC := Try.isAgg40
  zC := Try.sizeOf40
  vC := Try.zeroValue40
  aE := Try.isAgg31
  zE := Try.sizeOf31 }
theorem cmpLaysR (num : Bool) {g bb : Nat} {w : World} (size : Nat) (hne : bb ≠ g) (hB : w.cell? ⟨bb, 2, none⟩ = some (.bool num)) : CmpLays Try.prog 13 #[.pointer (some ⟨bb, 0, none⟩)] encP 8 (cfP num) g 0 size w := by
  intro m os dk hs x y
  have hl := World.block_lt_of_cell? _ _ hB
  have hc : (sortWorldK encP 8 w g 0 m dk os).cell? ⟨bb, 2, none⟩ = some (.bool num) := by
    unfold sortWorldK
    rw [cell?_grow _ _ _ (by rw [size_putRowK]; exact hl), cell?_putRowK_other encP 8 _ g 0 dk _ hne]
    exact hB
  exact clos_c num bb x.1 y.1 _ hc
end Go.Proofs.Ytbmdclgndlddbaa
