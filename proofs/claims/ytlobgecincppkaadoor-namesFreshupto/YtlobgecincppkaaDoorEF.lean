
-- Encode's lists are rows of their own.
import Derived.Test.YtlobgecincppkaaDoorEA
import Derived.Test.YtlobgecincppkaaDoorA9
import Derived.Test.YtlobgecincppkaaDoorMS2
namespace Go.Proofs.YtlobgecincppkaaDoor
open Go.ChangeShapes Go.WideShapes Go.ChangeAt Go.RowKit
set_option linter.unusedVariables false
set_option maxRecDepth 100000
def EncOwn (A : EncA) (w : World) (e : Ending) (w' : World) : Prop := ∃ F I, e = .returned (.tuple #[.agg #[F, I, .string A.t], .int .i64 A.e]) ∧ w'.ownsRow w.heap.size 9 1 F A.f.length (strM A.f) ∧ w'.ownsRow w.heap.size 9 1 I A.i.length (strM A.i) ∧ Below w.heap.size w w' ∧ ∀ g, F.ownBlock = some g → I.ownBlock ≠ some g
theorem own_at8 {w : World} {B g n : Nat} {φ : Nat → List UInt8} (hB : B ≤ g) (h : w.heap[g]? = some (.cells (rowAt φ n n) 9 (0, 0))) (hn : n ≤ maxLen) : w.ownsRow B 9 1 (.slice (some ⟨g, 0, none⟩) n n) ((List.range n).map fun j => strL (φ j)).length (strM ((List.range n).map fun j => strL (φ j))) := by
  have hl : ((List.range n).map fun j => strL (φ j)).length = n := by simp
  rw [hl]
  refine ⟨by rw [strM_length, hl, Nat.mul_one], .inr ⟨g, n, _, rfl, hB, h, Nat.le_refl _, hn, by rw [rowAt_size, Nat.mul_one], ?_⟩⟩
  rw [Nat.mul_one, List.take_of_length_le (by rw [Array.length_toList, rowAt_size]; exact Nat.le_refl _)]
  unfold rowAt strM
  rw [List.map_map]
  refine List.map_congr_left fun j hj => ?_
  simp only [List.mem_range] at hj
  simp [hj]
theorem nil_own8 (w : World) (B : Nat) : w.ownsRow B 9 1 (.slice none 0 0) ([] : List ByteArray).length (strM []) := ⟨rfl, .inl ⟨rfl, rfl⟩⟩
theorem pencF_c (k : Int) (lv : Value) (LL : List ByteArray) (w : World) (hr : RowS w lv LL) (ht : tot LL ≤ 1099999) (hT : Tabs w) : Calls Tryd.prog 4 #[.int .i64 k, lv] w fun e w' => EncOwn (encA k LL) w e w' := by
  have hl := tot_len LL
  by_cases hk : k = 0 ∨ k = 1 ∨ k = 2
  · unfold encA
    rw [if_pos hk]
    obtain ⟨m, h1, h2, h3⟩ := first_bad LL
    have hv := allV_iff LL m h1 h2 h3
    have H : Calls Tryd.prog 4 #[.int .i64 k, lv] w fun e w' => (m = LL.length → EncDone k LL w e w') ∧ (m < LL.length → EncNo 80 w e w') := by
      rcases hk with rfl | rfl | rfl
      · exact enc_0 lv LL w m hr (by omega) (fun j hj => by have := size_tot _ j hj; omega) (fun j => by have := tab_take 0 LL j; omega) hT h1 h2 h3
      · exact enc_1 lv LL w m hr (by omega) (fun j hj => by have := size_tot _ j hj; omega) (fun j => by have := tab_take 1 LL j; omega) hT h1 h2 h3
      · exact enc_2 lv LL w m hr (by omega) (fun j hj => by have := size_tot _ j hj; omega) (fun j => by have := tab_take 2 LL j; omega) hT h1 h2 h3
    refine H.mono ?_
    rintro e w' ⟨q1, q2⟩
    rcases hv with ⟨e1, e2⟩ | ⟨e1, e2⟩
    · rw [if_pos e2]
      obtain ⟨f, g, hfg, hf0, hg0, rfl, r1, r2, hb⟩ := q1 e1
      have hn : LL.length ≤ maxLen := by unfold maxLen; omega
      refine ⟨_, _, rfl, own_at8 hf0 r1 hn, own_at8 hg0 r2 hn, hb, fun q h1 h2 => hfg ?_⟩
      simp only [Value.ownBlock, Option.some.injEq] at h1 h2
      rw [h1, h2]
    · rw [if_neg e2]
      obtain ⟨rfl, hb⟩ := q2 e1
      exact ⟨_, _, rfl, nil_own8 _ _, nil_own8 _ _, hb, fun q h1 => by cases h1⟩
  · unfold encA
    rw [if_neg hk]
    refine (penc_other k lv w hk).mono ?_
    rintro e w' ⟨rfl, hb⟩
    exact ⟨_, _, rfl, nil_own8 _ _, nil_own8 _ _, hb, fun q h1 => by cases h1⟩
/-- a list that reads so, in a block of this stretch -/
def RowR (w : World) (lo hi : Nat) (v : Value) (l : List ByteArray) : Prop := RowS w v l ∧ ∀ g, l ≠ [] → v.ownBlock = some g → lo ≤ g ∧ g < hi
theorem RowR.grown {w w' : World} {lo hi : Nat} {v : Value} {l : List ByteArray} {r : Option Nat} (h : RowR w lo hi v l) (hg : w.grownBy w' r) (hr : ∀ k, r = some k → k < lo ∨ hi ≤ k) : RowR w' lo hi v l := by
  refine ⟨?_, h.2⟩
  rcases h.1 with q | ⟨b, off, cap, rfl, hc⟩
  · exact .inl q
  · by_cases hl : l = []
    · exact .inl ⟨hl, _, _, by rw [hl]; rfl⟩
    · refine .inr ⟨b, off, cap, rfl, fun j hj => ?_⟩
      have hb := h.2 b hl rfl
      have hc' := hc j hj
      have hlt := World.block_lt_of_cell? _ _ hc'
      rw [World.cell?_of_block (hg.block b hlt (fun e => by have := hr b e.symm; omega))]
      exact hc'
theorem RowR.ofOwn {w : World} {lo hi : Nat} {v : Value} {l : List ByteArray} (h : w.ownsRow lo 9 1 v l.length (strM l)) (hh : w.heap.size ≤ hi) : RowR w lo hi v l := by
  refine ⟨?_, fun g _ hg => by have := h.lt g hg; omega⟩
  rcases h.2 with ⟨rfl, h0⟩ | ⟨g, cap, cur, rfl, q⟩
  · exact .inl ⟨List.eq_nil_of_length_eq_zero h0, _, _, rfl⟩
  · refine .inr ⟨g, 0, cap, rfl, fun j hj => ?_⟩
    have := own_cellM h j hj
    rw [Nat.zero_add]; exact this
theorem RowR.ofS {w : World} {lo hi : Nat} {v : Value} {l : List ByteArray} (h : RowS w v l) (hn : newV lo v) (hh : w.heap.size ≤ hi) : RowR w lo hi v l := by
  refine ⟨h, fun g hl hg => ?_⟩
  rcases h with ⟨h0, _⟩ | ⟨b, off, cap, rfl, hc⟩
  · exact absurd h0 hl
  · have hb := hn _ _ _ rfl
    have hpos : 0 < l.length := List.length_pos_iff.2 hl
    have := World.block_lt_of_cell? _ _ (hc 0 hpos)
    simp only [Value.ownBlock, Option.some.injEq] at hg
    subst hg
    simp only [] at hb this
    exact ⟨hb, by omega⟩
end Go.Proofs.YtlobgecincppkaaDoor
