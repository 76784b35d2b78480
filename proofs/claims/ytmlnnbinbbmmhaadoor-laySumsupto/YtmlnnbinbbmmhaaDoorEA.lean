
-- Both Encodes, in one answer.
import Derived.Test.YtmlnnbinbbmmhaaDoorK3
import Derived.Test.YtmlnnbinbbmmhaaDoorRE0
import Derived.Test.YtmlnnbinbbmmhaaDoorRE1
import Derived.Test.YtmlnnbinbbmmhaaDoorRE2
namespace Go.Proofs.YtmlnnbinbbmmhaaDoor
open Go.ChangeShapes Go.WideShapes Go.ChangeAt Go.RowKit
set_option linter.unusedVariables false
set_option maxRecDepth 100000

def allV (LL : List ByteArray) : Bool := LL.all fun s => validL s.data.toList
def fL (k : Int) (LL : List ByteArray) : List ByteArray := (List.range LL.length).map fun j => strL (fAt k (LL.map (·.data.toList)) j)
def iL (k : Int) (LL : List ByteArray) : List ByteArray := (List.range LL.length).map fun j => strL (iAt k (LL.map (·.data.toList)) j)
/-- what Encode answers -/
structure EncA where
  f : List ByteArray
  i : List ByteArray
  t : ByteArray
  e : Int
def encA (k : Int) (LL : List ByteArray) : EncA :=
  if k = 0 ∨ k = 1 ∨ k = 2 then (if allV LL = true then ⟨fL k LL, iL k LL, strL (tabL k (LL.map (·.data.toList))), 0⟩ else ⟨[], [], ⟨#[]⟩, 80⟩) else ⟨[], [], ⟨#[]⟩, 12⟩
/-- a list that was made since -/
def newV (n : Nat) (v : Value) : Prop := ∀ ad l c, v = .slice (some ad) l c → n ≤ ad.block
def EncSays (A : EncA) (w : World) (e : Ending) (w' : World) : Prop := ∃ fa fl fc ia il ic, e = .returned (.tuple #[.agg #[.slice fa fl fc, .slice ia il ic, .string A.t], .int .i64 A.e]) ∧ RowS w' (.slice fa fl fc) A.f ∧ RowS w' (.slice ia il ic) A.i ∧ Below w.heap.size w w' ∧ newV w.heap.size (.slice fa fl fc) ∧ newV w.heap.size (.slice ia il ic)
theorem newV_nil (n : Nat) : newV n (.slice none 0 0) := fun ad l c h => by cases h
theorem newV_some {n g l c : Nat} (h : n ≤ g) : newV n (.slice (some ⟨g, 0, none⟩) l c) := fun ad l c e => by cases e; exact h
theorem newV_own {w : World} {n k : Nat} {e : TypeId} {size : Nat} {v : Value} {xs : List Value} (h : w.ownsRow n e size v k xs) : newV n v := by
  rcases h.2 with ⟨rfl, _⟩ | ⟨g, cap, cur, rfl, q, _⟩
  · exact newV_nil n
  · exact newV_some q
theorem RowS.kq {w w' : World} {g n : Nat} {v : Value} {l : List ByteArray} (h : RowS w v l) (hn : newV n v) (hg : g < n) (hq : Kq g w w') : RowS w' v l := by
  rcases h with h | ⟨b, off, cap, rfl, hc⟩
  · exact .inl h
  · refine .inr ⟨b, off, cap, rfl, fun j hj => ?_⟩
    have hb := hn _ _ _ rfl
    have hc' := hc j hj
    have hlt := block_lt_of_cell hc'
    have e := hq.block b (by show b ≠ g; have : n ≤ b := hb; omega) hlt
    rw [← hc']
    simp only [World.cell?]
    rw [e]
theorem first_bad (LL : List ByteArray) : ∃ m, m ≤ LL.length ∧ (∀ j, j < m → validL (LL.getD j .empty).data.toList = true) ∧ (m < LL.length → validL (LL.getD m .empty).data.toList = false) := by
  induction LL with
  | nil => exact ⟨0, Nat.le_refl _, fun j h => absurd h (Nat.not_lt_zero _), fun h => absurd h (Nat.lt_irrefl _)⟩
  | cons x r ih =>
    cases hx : validL x.data.toList with
    | false => exact ⟨0, Nat.zero_le _, fun j h => absurd h (Nat.not_lt_zero _), fun _ => hx⟩
    | true =>
      obtain ⟨m, h1, h2, h3⟩ := ih
      refine ⟨m + 1, Nat.succ_le_succ h1, fun j hj => ?_, fun h => ?_⟩
      · cases j with
        | zero => exact hx
        | succ j => exact h2 j (by omega)
      · exact h3 (by simpa using h)
theorem allV_iff (LL : List ByteArray) (m : Nat) (h1 : m ≤ LL.length) (h2 : ∀ j, j < m → validL (LL.getD j .empty).data.toList = true) (h3 : m < LL.length → validL (LL.getD m .empty).data.toList = false) : (m = LL.length ∧ allV LL = true) ∨ (m < LL.length ∧ ¬ allV LL = true) := by
  by_cases h : m = LL.length
  · refine .inl ⟨h, ?_⟩
    unfold allV
    rw [List.all_eq_true]
    intro s hs
    obtain ⟨j, hj, rfl⟩ := List.getElem_of_mem hs
    have := h2 j (by omega)
    simpa [List.getD, List.getElem?_eq_getElem hj] using this
  · have hm : m < LL.length := by omega
    refine .inr ⟨hm, fun ha => ?_⟩
    unfold allV at ha
    rw [List.all_eq_true] at ha
    have := ha LL[m] (List.getElem_mem hm)
    have q := h3 hm
    simp [List.getD, List.getElem?_eq_getElem hm] at q
    rw [q] at this
    cases this
theorem rowS_at {w : World} {g : Nat} {φ : Nat → List UInt8} {n : Nat} (h : w.heap[g]? = some (.cells (rowAt φ n n) 9 (0, 0))) : RowS w (.slice (some ⟨g, 0, none⟩) n n) ((List.range n).map fun j => strL (φ j)) := by
  refine .inr ⟨g, 0, n, by simp, fun j hj => ?_⟩
  rw [List.length_map, List.length_range] at hj
  rw [Nat.zero_add]
  refine cell_rowK h j _ ?_
  unfold rowAt
  simp [List.getD, hj]
theorem rowS_own {w : World} {B : Nat} {v : Value} {φ : Nat → List UInt8} {n : Nat} (h : w.ownsRow B 9 1 v n (strRow φ n)) : RowS w v ((List.range n).map fun j => strL (φ j)) := by
  rcases h.2 with ⟨rfl, h0⟩ | ⟨g, cap, cur, rfl, q⟩
  · subst h0; exact .inl ⟨rfl, _, _, rfl⟩
  · refine .inr ⟨g, 0, cap, by simp, fun j hj => ?_⟩
    rw [List.length_map, List.length_range] at hj
    have := h.cells (g := g) rfl j (.string (strL (φ j))) (by unfold strRow; simp [hj])
    rw [Addr.add_mid] at this
    rw [this]
    simp [List.getD, hj]
theorem rowS_nil (w : World) : RowS w (.slice none 0 0) [] := .inl ⟨rfl, _, _, rfl⟩
set_option maxHeartbeats 1000000 in
theorem penc_other (k : Int) (lv : Value) (w : World) (hk : ¬ (k = 0 ∨ k = 1 ∨ k = 2)) : Calls Tryd.prog 10 #[.int .i64 k, lv] w fun e w' => e = .returned (.tuple #[.agg #[.slice none 0 0, .slice none 0 0, .string ⟨#[]⟩], .int .i64 12]) ∧ Below w.heap.size w w' := by
  have a0 : (k == 0) = false := by simp; omega
  have a1 : (k == 1) = false := by simp; omega
  have a2 : (k == 2) = false := by simp; omega
  have b0 : (k != 0) = true := by simp [bne, a0]
  have b1 : (k != 1) = true := by simp [bne, a1]
  have b2 : (k != 2) = true := by simp [bne, a2]
  have h0 := heap_alloc_new w (.cells #[.slice none 0 0, .slice none 0 0, .string ⟨#[]⟩] 36)
  have hB := bupK (Below.refl _ w) (.cells #[.slice none 0 0, .slice none 0 0, .string ⟨#[]⟩] 36)
  clear hk
  go_enter Tryd.func10, Tryd.ntmps10
  go_wp2_with (refine wpList_store_kz rfl rfl _ _ _ rfl w.heap.size 0 (.agg #[.slice none 0 0, .slice none 0 0, .string ⟨#[]⟩]) rfl rfl _ _ #[.slice none 0 0, .slice none 0 0, .string ⟨#[]⟩] h0 (by kernel_rfl) rfl rfl rfl ?_; intro Wz hWz qz; have hBz := qz.belowN hB (Nat.le_refl _) (Nat.le_refl _))
  refine bodyPost_ret (results_cell_tmp_rowR rfl _ _ w.heap.size _ _ _ _ _ rfl rfl hWz Tryd.underlying36 rfl (by kernel_rfl)) rfl ?_
  exact ⟨rfl, hBz⟩
set_option maxHeartbeats 1000000 in
theorem renc_other (k : Int) (lv : Value) (w : World) (hk : ¬ (k = 0 ∨ k = 1 ∨ k = 2)) : Calls Tryd.prog 34 #[.int .i64 k, lv] w fun e w' => e = .returned (.tuple #[.agg #[.slice none 0 0, .slice none 0 0, .string ⟨#[]⟩], .int .i64 12]) ∧ Below w.heap.size w w' := by
  have a0 : (k == 0) = false := by simp; omega
  have a1 : (k == 1) = false := by simp; omega
  have a2 : (k == 2) = false := by simp; omega
  have b0 : (k != 0) = true := by simp [bne, a0]
  have b1 : (k != 1) = true := by simp [bne, a1]
  have b2 : (k != 2) = true := by simp [bne, a2]
  have h0 : ((w.alloc (.cells #[.slice none 0 0, .slice none 0 0, .string ⟨#[]⟩] 36)).alloc (.cells #[.slice none 0 0, .slice none 0 0, .string ⟨#[]⟩] 36)).heap[w.heap.size]? = some (.cells #[.slice none 0 0, .slice none 0 0, .string ⟨#[]⟩] 36 (0, 0)) := hupK (heap_alloc_new w _) _
  have hB : Below w.heap.size w ((w.alloc (.cells #[.slice none 0 0, .slice none 0 0, .string ⟨#[]⟩] 36)).alloc (.cells #[.slice none 0 0, .slice none 0 0, .string ⟨#[]⟩] 36)) := bupK (bupK (Below.refl _ w) _) _
  clear hk
  go_enter Tryd.func34, Tryd.ntmps34
  go_wp2_with (refine wpList_store_kz rfl rfl _ _ _ rfl w.heap.size 0 (.agg #[.slice none 0 0, .slice none 0 0, .string ⟨#[]⟩]) rfl rfl _ _ #[.slice none 0 0, .slice none 0 0, .string ⟨#[]⟩] h0 (by kernel_rfl) rfl rfl rfl ?_; intro Wz hWz qz; have hBz := qz.belowN hB (Nat.le_refl _) (Nat.le_refl _))
  refine bodyPost_ret (results_cell_tmp_rowR rfl _ _ w.heap.size _ _ _ _ _ rfl rfl hWz Tryd.underlying36 rfl (by kernel_rfl)) rfl ?_
  exact ⟨rfl, hBz⟩
theorem pencA_c (k : Int) (lv : Value) (LL : List ByteArray) (w : World) (hr : RowS w lv LL) (ht : tot LL ≤ 1099999) (hT : Tabs w) : Calls Tryd.prog 10 #[.int .i64 k, lv] w fun e w' => EncSays (encA k LL) w e w' := by
  have hl := tot_len LL
  by_cases hk : k = 0 ∨ k = 1 ∨ k = 2
  · unfold encA
    rw [if_pos hk]
    obtain ⟨m, h1, h2, h3⟩ := first_bad LL
    have hv := allV_iff LL m h1 h2 h3
    have H : Calls Tryd.prog 10 #[.int .i64 k, lv] w fun e w' => (m = LL.length → EncDone k LL w e w') ∧ (m < LL.length → EncNo 80 w e w') := by
      rcases hk with rfl | rfl | rfl
      · exact enc_0 lv LL w m hr (by omega) (fun j hj => by have := size_tot _ j hj; omega) (fun j => by have := tab_take 0 LL j; omega) hT h1 h2 h3
      · exact enc_1 lv LL w m hr (by omega) (fun j hj => by have := size_tot _ j hj; omega) (fun j => by have := tab_take 1 LL j; omega) hT h1 h2 h3
      · exact enc_2 lv LL w m hr (by omega) (fun j hj => by have := size_tot _ j hj; omega) (fun j => by have := tab_take 2 LL j; omega) hT h1 h2 h3
    refine H.mono ?_
    rintro e w' ⟨q1, q2⟩
    rcases hv with ⟨e1, e2⟩ | ⟨e1, e2⟩
    · rw [if_pos e2]
      obtain ⟨f, g, _, hf0, hg0, rfl, r1, r2, hb⟩ := q1 e1
      exact ⟨_, _, _, _, _, _, rfl, rowS_at r1, rowS_at r2, hb, newV_some hf0, newV_some hg0⟩
    · rw [if_neg e2]
      obtain ⟨rfl, hb⟩ := q2 e1
      exact ⟨none, 0, 0, none, 0, 0, rfl, rowS_nil _, rowS_nil _, hb, newV_nil _, newV_nil _⟩
  · unfold encA
    rw [if_neg hk]
    refine (penc_other k lv w hk).mono ?_
    rintro e w' ⟨rfl, hb⟩
    exact ⟨none, 0, 0, none, 0, 0, rfl, rowS_nil _, rowS_nil _, hb, newV_nil _, newV_nil _⟩
theorem rencA_c (k : Int) (lv : Value) (LL : List ByteArray) (w : World) (hr : RowS w lv LL) (ht : tot LL ≤ 1099999) (hT : Tabs w) : Calls Tryd.prog 34 #[.int .i64 k, lv] w fun e w' => EncSays (encA k LL) w e w' := by
  have hl := tot_len LL
  by_cases hk : k = 0 ∨ k = 1 ∨ k = 2
  · unfold encA
    rw [if_pos hk]
    obtain ⟨m, h1, h2, h3⟩ := first_bad LL
    have hv := allV_iff LL m h1 h2 h3
    have H : Calls Tryd.prog 34 #[.int .i64 k, lv] w fun e w' => (m = LL.length → REncDone k (LL.map (·.data.toList)) w e w') ∧ (m < LL.length → REncNo 80 w e w') := by
      rcases hk with rfl | rfl | rfl
      · exact renc_0 lv LL w m hr (by omega) (fun j hj => by have := size_tot _ j hj; omega) (fun j => by have := tab_take 0 LL j; omega) hT h1 h2 h3
      · exact renc_1 lv LL w m hr (by omega) (fun j hj => by have := size_tot _ j hj; omega) (fun j => by have := tab_take 1 LL j; omega) hT h1 h2 h3
      · exact renc_2 lv LL w m hr (by omega) (fun j hj => by have := size_tot _ j hj; omega) (fun j => by have := tab_take 2 LL j; omega) hT h1 h2 h3
    refine H.mono ?_
    rintro e w' ⟨q1, q2⟩
    rcases hv with ⟨e1, e2⟩ | ⟨e1, e2⟩
    · rw [if_pos e2]
      obtain ⟨fv, iv, rfl, r1, r2, hb⟩ := q1 e1
      obtain ⟨fa, fl, fc, rfl⟩ := own_sliceR r1
      obtain ⟨ia, il, ic, rfl⟩ := own_sliceR r2
      rw [List.length_map] at r1 r2
      exact ⟨_, _, _, _, _, _, rfl, rowS_own r1, rowS_own r2, hb, newV_own r1, newV_own r2⟩
    · rw [if_neg e2]
      obtain ⟨rfl, hb⟩ := q2 e1
      exact ⟨none, 0, 0, none, 0, 0, rfl, rowS_nil _, rowS_nil _, hb, newV_nil _, newV_nil _⟩
  · unfold encA
    rw [if_neg hk]
    refine (renc_other k lv w hk).mono ?_
    rintro e w' ⟨rfl, hb⟩
    exact ⟨none, 0, 0, none, 0, 0, rfl, rowS_nil _, rowS_nil _, hb, newV_nil _, newV_nil _⟩
end Go.Proofs.YtmlnnbinbbmmhaaDoor
