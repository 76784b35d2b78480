
-- NamesEncode's walk.
import Derived.Test.YtnplblficibkcaaDoorEA
import Derived.Test.YtnplblficibkcaaDoorA9
import Derived.Laws.AppendOwnNone
import Derived.WalkSmall
namespace Go.Proofs.YtnplblficibkcaaDoor
open Go.ChangeShapes Go.WideShapes Go.ChangeAt Go.RowKit
set_option linter.unusedVariables false
set_option maxRecDepth 100000

theorem num_cN (n : Int) (w : World) : Calls Tryd.prog 8 #[.int .i64 n] w fun e w' => e = .returned (.int .i64 n) ∧ w' = w := by
  go_enter Tryd.func8, Tryd.ntmps8
  go_wp2
  go_ret
  exact ⟨rfl, rfl⟩
theorem below_drewK {n : Nat} {a b : World} (h : Below n a b) (k : Nat) : Below n a (b.drewN k) := by
  induction k with
  | zero => exact h
  | succ k ih => exact ih.drew
theorem strVget (l : List ByteArray) (j : Nat) (u : Value) (h : (strV l)[j]? = some u) : j < l.length ∧ u = .string (l.getD j .empty) := by
  unfold strV at h
  rw [List.getElem?_map] at h
  cases hj : l[j]? with
  | none => rw [hj] at h; cases h
  | some x =>
    rw [hj] at h
    have := (List.getElem?_eq_some_iff.1 hj).1
    refine ⟨this, ?_⟩
    simp only [Option.map_some, Option.some.injEq] at h
    rw [← h]; simp [List.getD, hj]
/-- the first n of a row of texts -/
theorem rowS_first {w : World} {g cap : Nat} {cur : Array Value} {l : List ByteArray} (h : w.heap[g]? = some (.cells cur 9 (0, 0))) (hc : ∀ j, j < l.length → cur[j]? = some (.string (l.getD j .empty))) : RowS w (.slice (some ⟨g, 0, none⟩) l.length cap) l := by
  refine .inr ⟨g, 0, cap, rfl, fun j hj => ?_⟩
  rw [Nat.zero_add]
  exact cell_rowK h j _ (hc j hj)
theorem putAt_one (old : Array Value) (i : Nat) (v : Value) (h : i < old.size) (j : Nat) : (putAt old i #[v])[j]? = if j = i then some v else old[j]? := by
  unfold putAt
  simp only [List.getElem?_toArray, List.getElem?_append, List.length_append, List.length_take, Array.length_toList]
  have e : min i old.size = i := by omega
  rw [e]
  by_cases h1 : j < i
  · simp [h1, show j < i + 1 by omega, show ¬ j = i by omega]
  · by_cases h2 : j = i
    · subst h2; simp
    · simp [h2, show ¬ j < i + 1 by omega, show i + 1 + (j - (i + 1)) = j by omega]
theorem putAt_size (old : Array Value) (i : Nat) (v : Value) (h : i < old.size) : (putAt old i #[v]).size = old.size := by
  unfold putAt; simp; omega
theorem tot_set (l : List ByteArray) (i : Nat) (x : ByteArray) (h : i < l.length) : tot (l.set i x) + (l.getD i .empty).size = tot l + x.size := by
  induction l generalizing i with
  | nil => simp at h
  | cons y r ih =>
    cases i with
    | zero => rw [List.set_cons_zero, tot_cons, tot_cons]; show _ + y.size = _; omega
    | succ i => rw [List.set_cons_succ, tot_cons, tot_cons]; have := ih i (by simpa using h); show _ + (r.getD i .empty).size = _; omega
theorem encA_len (k : Int) (LL : List ByteArray) : (encA k LL).f.length ≤ LL.length ∧ (encA k LL).i.length ≤ LL.length := by
  unfold encA
  split
  · split
    · unfold fL iL; simp
    · exact ⟨Nat.zero_le _, Nat.zero_le _⟩
  · exact ⟨Nat.zero_le _, Nat.zero_le _⟩
theorem getD_set (l : List ByteArray) (i j : Nat) (x : ByteArray) (hi : i < l.length) : (l.set i x).getD j .empty = if j = i then x else l.getD j .empty := by
  simp only [List.getD, List.getElem?_set]
  by_cases h : i = j
  · subst h; simp [hi]
  · simp [h, show ¬ j = i from fun q => h q.symm]
theorem rowS_firstN {w : World} {g cap n : Nat} {cur : Array Value} {l : List ByteArray} (hn : l.length = n) (h : w.heap[g]? = some (.cells cur 9 (0, 0))) (hc : ∀ j, j < l.length → cur[j]? = some (.string (l.getD j .empty))) : RowS w (.slice (some ⟨g, 0, none⟩) n cap) l := hn ▸ rowS_first h hc
theorem rowS_first_set {w : World} {g : Nat} {cur : Array Value} {l : List ByteArray} (i : Nat) (x : ByteArray) (hi : i < l.length) (hs : l.length ≤ cur.size) (hc : ∀ j, j < l.length → cur[j]? = some (.string (l.getD j .empty))) : ∀ j, j < (l.set i x).length → (putAt cur i #[.string x])[j]? = some (.string ((l.set i x).getD j .empty)) := by
  intro j hj
  rw [List.length_set] at hj
  rw [putAt_one cur i _ (by omega) j, getD_set l i j x hi]
  split
  · rfl
  · exact hc j hj
theorem own_full {w : World} {B n : Nat} {v : Value} {xs : List Value} (h : w.ownsRow B 9 1 v (n + 1) xs) : ∃ g cap cur, v = .slice (some ⟨g, 0, none⟩) (n + 1) cap ∧ B ≤ g ∧ w.heap[g]? = some (.cells cur 9 (0, 0)) ∧ n + 1 ≤ cap ∧ cap ≤ maxLen ∧ cur.size = cap * 1 ∧ cur.toList.take ((n + 1) * 1) = xs := by
  rcases h.2 with ⟨_, q⟩ | ⟨g, cap, cur, q1, q2, q3, q4, q5, q6, q7⟩
  · cases q
  · exact ⟨g, cap, cur, q1, q2, q3, q4, q5, q6, q7⟩
theorem full_cells {LL : List ByteArray} {p c : Nat} {cur : Array Value} {x : ByteArray} (hp : LL.length = p + 1) (hs : cur.size = c * 1) (ht : cur.toList.take ((p + 1 + 1) * 1) = strV LL ++ [.string x]) : (∀ j, j < LL.length → cur[j]? = some (.string (LL.getD j .empty))) ∧ cur[p + 1]? = some (.string x) := by
  have hl : (strV LL).length = p + 1 := by unfold strV; rw [List.length_map, hp]
  have key : ∀ j, j < p + 2 → cur[j]? = (strV LL ++ [.string x])[j]? := fun j hj => by
    rw [← ht, List.getElem?_take_of_lt (by omega)]; simp
  constructor
  · intro j hj
    rw [key j (by omega), List.getElem?_append_left (by omega)]
    unfold strV
    simp [List.getD, List.getElem?_eq_getElem hj]
  · rw [key (p + 1) (by omega), List.getElem?_append_right (by omega), hl]
    simp
set_option maxHeartbeats 4000000 in
theorem ne_pos (k : Int) (b off cap p : Nat) (LL : List ByteArray) (w : World) (hp : LL.length = p + 1) (hc : ∀ j, j < LL.length → w.cell? ⟨b, off + j, none⟩ = some (.string (LL.getD j .empty))) (ht : tot LL ≤ 1048575) (hT : Tabs w) :
    Calls Tryd.prog 3 #[.int .i64 k, .slice (some ⟨b, off, none⟩) (p + 1) cap] w fun e w' => e = .returned (.bool true) ∧ Below w.heap.size w w' := by
  obtain ⟨i9, hi9, hz9, hs9, hb9⟩ := info_parts info9R
  have hl := tot_len LL
  have hpb : p ≤ 1048575 := by omega
  have hrow : RowS w (.slice (some ⟨b, off, none⟩) (p + 1) cap) LL := by rw [← hp]; exact .inr ⟨b, off, cap, rfl, hc⟩
  have hnews : ∀ j u, (strV LL)[j]? = some u → w.cell? ((⟨b, off, none⟩ : Addr).add j) = some u := fun j u hu => by
    obtain ⟨h1, rfl⟩ := strVget LL j u hu
    rw [Addr.add_mid]; exact hc j h1
  have hone : ∀ u ∈ strV LL, u.oneCell' = true := fun u hu => by
    unfold strV at hu
    obtain ⟨x, _, rfl⟩ := List.mem_map.1 hu; rfl
  have hvl : (strV LL).length = (p + 1) * 1 := by unfold strV; rw [List.length_map, hp, Nat.mul_one]
  have HP : Hid (∀ (v : Value) (L : List ByteArray) (wx : World), RowS wx v L → tot L ≤ 1099999 → Below w.heap.size w wx → Calls Tryd.prog 5 #[.int .i64 k, v] wx fun e w' => EncSays (encA k L) wx e w') := fun v L wx h1 h2 h3 => pencA_c k v L wx h1 h2 (hT.on h3)
  have HR : Hid (∀ (v : Value) (L : List ByteArray) (wx : World), RowS wx v L → tot L ≤ 1099999 → Below w.heap.size w wx → Calls Tryd.prog 6 #[.int .i64 k, v] wx fun e w' => EncSays (encA k L) wx e w') := fun v L wx h1 h2 h3 => rencA_c k v L wx h1 h2 (hT.on h3)
  have HNm : Hid (∀ (n : Int) (w : World), Calls Tryd.prog 8 #[.int .i64 n] w fun e w' => e = .returned (.int .i64 n) ∧ w' = w) := fun n w => num_cN n w
  have HLL := hidK (And.intro hp ht)
  have HROW := hidK hrow
  have HNEW := hidK hnews
  have HONE := hidK hone
  have HVL := hidK hvl
  clear hrow hnews hone hvl hc hT hl hp ht
  go_enter Tryd.func3, Tryd.ntmps3
  go_wp2_with first
    | (refine wpList_append_own _ rfl (.const (.slice none 0 0)) (.tmp 16) 22 rfl w.heap.size 9 i9 (.string ⟨#[]⟩) 1 16 Tryd.underlying22 hi9 hz9 hs9 hb9 rfl (by decide) (.slice none 0 0) 0 [] rfl ⟨rfl, .inl ⟨rfl, rfl⟩⟩ ⟨b, off, none⟩ (p + 1) cap (strV LL) rfl HVL.out HNEW.out HONE.out (by unfold maxLen; omega) (by omega) (Nat.le_refl _) ?_; intro v1 w1 o1 g1 _; have hB1 : Below w.heap.size w w1 := (Below.refl _ _).grown g1 (Nat.le_refl _) (fun q hq => by cases hq); obtain ⟨x1, y1, z1, rfl⟩ := own_sliceR o1; rw [Nat.zero_add, List.nil_append] at o1)
    | (refine wpList_append_own _ rfl (.tmp 18) (.tmp 19) 22 rfl w.heap.size 9 i9 (.string ⟨#[]⟩) 1 16 Tryd.underlying22 hi9 hz9 hs9 hb9 rfl (by decide) (.slice x1 y1 z1) (p + 1) (strV LL) rfl (own_upK o1 (.cells #[.string ⟨#[98, 101, 104, 105, 110, 100]⟩] 9)) ⟨w1.heap.size, 0, none⟩ 1 1 [.string ⟨#[98, 101, 104, 105, 110, 100]⟩] rfl rfl (new_rowK w1 #[.string ⟨#[98, 101, 104, 105, 110, 100]⟩] 9 _ rfl) (by intro u hu; simp at hu; subst hu; rfl) (by unfold maxLen; omega) (by omega) (bupK hB1 (.cells #[.string ⟨#[98, 101, 104, 105, 110, 100]⟩] 9)).size ?_; intro v2 w2 o2 g2 _; have hB2 := below_grow (bupK hB1 (.cells #[.string ⟨#[98, 101, 104, 105, 110, 100]⟩] 9)) g2 (own_upK o1 (.cells #[.string ⟨#[98, 101, 104, 105, 110, 100]⟩] 9)) (Nat.le_refl _); obtain ⟨g, c2, cur, rfl, hgb, hgr, hgc, hgm, hgs, hgt⟩ := own_full o2; have HFULL := hidK (full_cells HLL.out.1 hgs hgt); have hgl : g < w2.heap.size := (Array.getElem?_eq_some_iff.1 hgr).1; have hgs' : cur.size = c2 := hgs.trans (Nat.mul_one _); clear hgt o2)
  have G_0 := hgr
  have B_0 := hB2
  obtain ⟨s1, hs1⟩ : ∃ s1, s1 = (LL.set 0 ⟨#[97, 110, 111, 116, 104, 101, 114, 46, 110, 97, 109, 101, 46, 116, 104, 97, 116, 46, 105, 115, 46, 108, 111, 110, 103]⟩).getD p .empty := ⟨_, rfl⟩
  obtain ⟨L2, hL2⟩ : ∃ L2, L2 = (LL.set 0 ⟨#[97, 110, 111, 116, 104, 101, 114, 46, 110, 97, 109, 101, 46, 116, 104, 97, 116, 46, 105, 115, 46, 108, 111, 110, 103]⟩).set p (s1 ++ ⟨#[111]⟩) := ⟨_, rfl⟩
  have hpl := HLL.out.1
  have htl := HLL.out.2
  have h0l : 0 < LL.length := by omega
  have tot1 : tot (LL.set 0 ⟨#[97, 110, 111, 116, 104, 101, 114, 46, 110, 97, 109, 101, 46, 116, 104, 97, 116, 46, 105, 115, 46, 108, 111, 110, 103]⟩) ≤ 1048575 + 25 := by have := tot_set LL 0 ⟨#[97, 110, 111, 116, 104, 101, 114, 46, 110, 97, 109, 101, 46, 116, 104, 97, 116, 46, 105, 115, 46, 108, 111, 110, 103]⟩ h0l; have e : (⟨#[97, 110, 111, 116, 104, 101, 114, 46, 110, 97, 109, 101, 46, 116, 104, 97, 116, 46, 105, 115, 46, 108, 111, 110, 103]⟩ : ByteArray).size = 25 := rfl; omega
  have hpl1 : p < (LL.set 0 ⟨#[97, 110, 111, 116, 104, 101, 114, 46, 110, 97, 109, 101, 46, 116, 104, 97, 116, 46, 105, 115, 46, 108, 111, 110, 103]⟩).length := by rw [List.length_set]; omega
  have hs1z : s1.size ≤ 1048600 := by have := size_tot (LL.set 0 ⟨#[97, 110, 111, 116, 104, 101, 114, 46, 110, 97, 109, 101, 46, 116, 104, 97, 116, 46, 105, 115, 46, 108, 111, 110, 103]⟩) p hpl1; rw [← hs1] at this; omega
  have cat1 : (s1 ++ (⟨#[111]⟩ : ByteArray)).size = s1.size + 1 := ByteArray.size_append
  have tot2 : tot L2 ≤ 1099999 := by have := tot_set (LL.set 0 ⟨#[97, 110, 111, 116, 104, 101, 114, 46, 110, 97, 109, 101, 46, 116, 104, 97, 116, 46, 105, 115, 46, 108, 111, 110, 103]⟩) p (s1 ++ ⟨#[111]⟩) hpl1; rw [← hL2, ← hs1] at this; omega
  have hF1 := rowS_first_set (w := w) (g := g) 0 ⟨#[97, 110, 111, 116, 104, 101, 114, 46, 110, 97, 109, 101, 46, 116, 104, 97, 116, 46, 105, 115, 46, 108, 111, 110, 103]⟩ h0l (by omega) HFULL.out.1
  have hz1 : (putAt cur 0 #[.string ⟨#[97, 110, 111, 116, 104, 101, 114, 46, 110, 97, 109, 101, 46, 116, 104, 97, 116, 46, 105, 115, 46, 108, 111, 110, 103]⟩]).size = cur.size := putAt_size cur 0 _ (by omega)
  have hF2 := rowS_first_set (w := w) (g := g) p (s1 ++ ⟨#[111]⟩) hpl1 (by rw [List.length_set, hz1]; omega) hF1
  rw [← hL2] at hF2
  have HC1 : Hid ((putAt cur 0 #[.string ⟨#[97, 110, 111, 116, 104, 101, 114, 46, 110, 97, 109, 101, 46, 116, 104, 97, 116, 46, 105, 115, 46, 108, 111, 110, 103]⟩])[p]? = some (.string s1)) := by have := hF1 p hpl1; rw [← hs1] at this; exact this
  have hl2 : L2.length = p + 1 := by rw [hL2, List.length_set, List.length_set]; exact hpl
  have HL2 : Hid (L2.length = p + 1 ∧ tot L2 ≤ 1099999 ∧ (∀ j, j < L2.length → (putAt (putAt cur 0 #[.string ⟨#[97, 110, 111, 116, 104, 101, 114, 46, 110, 97, 109, 101, 46, 116, 104, 97, 116, 46, 105, 115, 46, 108, 111, 110, 103]⟩]) p #[.string (s1 ++ ⟨#[111]⟩)])[j]? = some (.string (L2.getD j .empty)))) := ⟨hl2, tot2, hF2⟩
  have HLNLL : Hid ((encA k LL).f.length ≤ 4194304 ∧ (encA k LL).i.length ≤ 4194304) := by have := encA_len k LL; exact ⟨by omega, by omega⟩
  have HLNL2 : Hid ((encA k L2).f.length ≤ 4194304 ∧ (encA k L2).i.length ≤ 4194304) := by have := encA_len k L2; exact ⟨by omega, by omega⟩
  have fit0 : Nat.ble (0 + (Value.string ⟨#[97, 110, 111, 116, 104, 101, 114, 46, 110, 97, 109, 101, 46, 116, 104, 97, 116, 46, 105, 115, 46, 108, 111, 110, 103]⟩).cells.size) cur.size = true := Nat.ble_eq_true_of_le (show 0 + 1 ≤ cur.size by omega)
  have fitp : Nat.ble (p + (Value.string (s1 ++ ⟨#[111]⟩)).cells.size) (putAt cur 0 #[.string ⟨#[97, 110, 111, 116, 104, 101, 114, 46, 110, 97, 109, 101, 46, 116, 104, 97, 116, 46, 105, 115, 46, 108, 111, 110, 103]⟩]).size = true := Nat.ble_eq_true_of_le (show p + 1 ≤ (putAt cur 0 #[.string ⟨#[97, 110, 111, 116, 104, 101, 114, 46, 110, 97, 109, 101, 46, 116, 104, 97, 116, 46, 105, 115, 46, 108, 111, 110, 103]⟩]).size by omega)
  have FIT := hidK (And.intro fit0 fitp)
  have pz : ((p : Int) + 1 == 0) = false := by simp; omega
  have fullc0 := cell_rowK hgr (p + 1) _ HFULL.out.2
  clear hs1 hL2 hpl htl h0l tot1 hpl1 tot2 hF1 hz1 hF2 hl2 fit0 fitp cat1 hgs
  go_wp2_with first
    | (go_at_call 7; refine (alike_c (.slice fa3 fl3 fc3) (.slice fa4 fl4 fc4) (.slice ia3 il3 ic3) (.slice ia4 il4 ic4) (encA k L2).t _ ⟨_, rF3_9, rF4_9, HLNL2.out.1⟩ ⟨_, rI3_9, rI4_9, HLNL2.out.2⟩).mono ?_; rintro e w20 ⟨rfl, hb10⟩; have SZ10 := hb10.size; have G_10 := hkeepK hb10 G_9; have K1_10 := hkeepK hb10 K1_9; have K2_10 := hkeepK hb10 K2_9; have K3_10 := hkeepK hb10 K3_9; have K4_10 := hkeepK hb10 K4_9; have rF1_10 := (rF1_9).on hb10; have rI1_10 := (rI1_9).on hb10; have rF2_10 := (rF2_9).on hb10; have rI2_10 := (rI2_9).on hb10; have rF3_10 := (rF3_9).on hb10; have rI3_10 := (rI3_9).on hb10; have rF4_10 := (rF4_9).on hb10; have rI4_10 := (rI4_9).on hb10; have B_10 := bel3K B_9 hb10; have c10_10 := cell_rowK K1_10 0 _ rfl; have c11_10 := cell_rowK K1_10 1 _ rfl; have c12_10 := cell_rowK K1_10 2 _ rfl; have c20_10 := cell_rowK K2_10 0 _ rfl; have c21_10 := cell_rowK K2_10 1 _ rfl; have c22_10 := cell_rowK K2_10 2 _ rfl; have c30_10 := cell_rowK K3_10 0 _ rfl; have c31_10 := cell_rowK K3_10 1 _ rfl; have c32_10 := cell_rowK K3_10 2 _ rfl; have c40_10 := cell_rowK K4_10 0 _ rfl; have c41_10 := cell_rowK K4_10 1 _ rfl; have c42_10 := cell_rowK K4_10 2 _ rfl)
    | (go_at_call 7; refine (alike_c (.slice fa1 fl1 fc1) (.slice fa2 fl2 fc2) (.slice ia1 il1 ic1) (.slice ia2 il2 ic2) (encA k LL).t _ ⟨_, rF1_8, rF2_8, HLNLL.out.1⟩ ⟨_, rI1_8, rI2_8, HLNLL.out.2⟩).mono ?_; rintro e w19 ⟨rfl, hb9⟩; have SZ9 := hb9.size; have G_9 := hkeepK hb9 G_8; have K1_9 := hkeepK hb9 K1_8; have K2_9 := hkeepK hb9 K2_8; have K3_9 := hkeepK hb9 K3_8; have K4_9 := hkeepK hb9 K4_8; have rF1_9 := (rF1_8).on hb9; have rI1_9 := (rI1_8).on hb9; have rF2_9 := (rF2_8).on hb9; have rI2_9 := (rI2_8).on hb9; have rF3_9 := (rF3_8).on hb9; have rI3_9 := (rI3_8).on hb9; have rF4_9 := (rF4_8).on hb9; have rI4_9 := (rI4_8).on hb9; have B_9 := bel3K B_8 hb9; have c10_9 := cell_rowK K1_9 0 _ rfl; have c11_9 := cell_rowK K1_9 1 _ rfl; have c12_9 := cell_rowK K1_9 2 _ rfl; have c20_9 := cell_rowK K2_9 0 _ rfl; have c21_9 := cell_rowK K2_9 1 _ rfl; have c22_9 := cell_rowK K2_9 2 _ rfl; have c30_9 := cell_rowK K3_9 0 _ rfl; have c31_9 := cell_rowK K3_9 1 _ rfl; have c32_9 := cell_rowK K3_9 2 _ rfl; have c40_9 := cell_rowK K4_9 0 _ rfl; have c41_9 := cell_rowK K4_9 1 _ rfl; have c42_9 := cell_rowK K4_9 2 _ rfl)
    | (go_at_call 6; refine (HR.out _ L2 _ (rowS_firstN HL2.out.1 G_7 HL2.out.2.2) HL2.out.2.1 B_7).mono ?_; rintro e w18 ⟨fa4, fl4, fc4, ia4, il4, ic4, rfl, rF4, rI4, hb8, nF4, nI4⟩; have SZ8 := hb8.size; have G_8 := hupK (hkeepK hb8 G_7) (.cells #[.slice fa4 fl4 fc4, .slice ia4 il4 ic4, .string (encA k L2).t] 24); have K1_8 := hupK (hkeepK hb8 K1_7) (.cells #[.slice fa4 fl4 fc4, .slice ia4 il4 ic4, .string (encA k L2).t] 24); have K2_8 := hupK (hkeepK hb8 K2_7) (.cells #[.slice fa4 fl4 fc4, .slice ia4 il4 ic4, .string (encA k L2).t] 24); have K3_8 := hupK (hkeepK hb8 K3_7) (.cells #[.slice fa4 fl4 fc4, .slice ia4 il4 ic4, .string (encA k L2).t] 24); have rF1_8 := ((rF1_7).on hb8).on (bupK (Below.refl _ _) (.cells #[.slice fa4 fl4 fc4, .slice ia4 il4 ic4, .string (encA k L2).t] 24)); have rI1_8 := ((rI1_7).on hb8).on (bupK (Below.refl _ _) (.cells #[.slice fa4 fl4 fc4, .slice ia4 il4 ic4, .string (encA k L2).t] 24)); have rF2_8 := ((rF2_7).on hb8).on (bupK (Below.refl _ _) (.cells #[.slice fa4 fl4 fc4, .slice ia4 il4 ic4, .string (encA k L2).t] 24)); have rI2_8 := ((rI2_7).on hb8).on (bupK (Below.refl _ _) (.cells #[.slice fa4 fl4 fc4, .slice ia4 il4 ic4, .string (encA k L2).t] 24)); have rF3_8 := ((rF3_7).on hb8).on (bupK (Below.refl _ _) (.cells #[.slice fa4 fl4 fc4, .slice ia4 il4 ic4, .string (encA k L2).t] 24)); have rI3_8 := ((rI3_7).on hb8).on (bupK (Below.refl _ _) (.cells #[.slice fa4 fl4 fc4, .slice ia4 il4 ic4, .string (encA k L2).t] 24)); have B_8 := bupK (bel3K B_7 hb8) (.cells #[.slice fa4 fl4 fc4, .slice ia4 il4 ic4, .string (encA k L2).t] 24); have K4_8 := heap_alloc_new w18 (.cells #[.slice fa4 fl4 fc4, .slice ia4 il4 ic4, .string (encA k L2).t] 24); have rF4_8 := (rF4).on (bupK (Below.refl _ _) (.cells #[.slice fa4 fl4 fc4, .slice ia4 il4 ic4, .string (encA k L2).t] 24)); have rI4_8 := (rI4).on (bupK (Below.refl _ _) (.cells #[.slice fa4 fl4 fc4, .slice ia4 il4 ic4, .string (encA k L2).t] 24)); have ZL4 : w18.heap.size < (w18.alloc (.cells #[.slice fa4 fl4 fc4, .slice ia4 il4 ic4, .string (encA k L2).t] 24)).heap.size := (Array.getElem?_eq_some_iff.1 K4_8).1; have c10_8 := cell_rowK K1_8 0 _ rfl; have c11_8 := cell_rowK K1_8 1 _ rfl; have c12_8 := cell_rowK K1_8 2 _ rfl; have c20_8 := cell_rowK K2_8 0 _ rfl; have c21_8 := cell_rowK K2_8 1 _ rfl; have c22_8 := cell_rowK K2_8 2 _ rfl; have c30_8 := cell_rowK K3_8 0 _ rfl; have c31_8 := cell_rowK K3_8 1 _ rfl; have c32_8 := cell_rowK K3_8 2 _ rfl; have c40_8 := cell_rowK K4_8 0 _ rfl; have c41_8 := cell_rowK K4_8 1 _ rfl; have c42_8 := cell_rowK K4_8 2 _ rfl)
    | (go_at_call 5; refine (HP.out _ L2 _ (rowS_firstN HL2.out.1 G_6 HL2.out.2.2) HL2.out.2.1 B_6).mono ?_; rintro e w17 ⟨fa3, fl3, fc3, ia3, il3, ic3, rfl, rF3, rI3, hb7, nF3, nI3⟩; have SZ7 := hb7.size; have G_7 := hupK (hkeepK hb7 G_6) (.cells #[.slice fa3 fl3 fc3, .slice ia3 il3 ic3, .string (encA k L2).t] 24); have K1_7 := hupK (hkeepK hb7 K1_6) (.cells #[.slice fa3 fl3 fc3, .slice ia3 il3 ic3, .string (encA k L2).t] 24); have K2_7 := hupK (hkeepK hb7 K2_6) (.cells #[.slice fa3 fl3 fc3, .slice ia3 il3 ic3, .string (encA k L2).t] 24); have rF1_7 := ((rF1_6).on hb7).on (bupK (Below.refl _ _) (.cells #[.slice fa3 fl3 fc3, .slice ia3 il3 ic3, .string (encA k L2).t] 24)); have rI1_7 := ((rI1_6).on hb7).on (bupK (Below.refl _ _) (.cells #[.slice fa3 fl3 fc3, .slice ia3 il3 ic3, .string (encA k L2).t] 24)); have rF2_7 := ((rF2_6).on hb7).on (bupK (Below.refl _ _) (.cells #[.slice fa3 fl3 fc3, .slice ia3 il3 ic3, .string (encA k L2).t] 24)); have rI2_7 := ((rI2_6).on hb7).on (bupK (Below.refl _ _) (.cells #[.slice fa3 fl3 fc3, .slice ia3 il3 ic3, .string (encA k L2).t] 24)); have B_7 := bupK (bel3K B_6 hb7) (.cells #[.slice fa3 fl3 fc3, .slice ia3 il3 ic3, .string (encA k L2).t] 24); have K3_7 := heap_alloc_new w17 (.cells #[.slice fa3 fl3 fc3, .slice ia3 il3 ic3, .string (encA k L2).t] 24); have rF3_7 := (rF3).on (bupK (Below.refl _ _) (.cells #[.slice fa3 fl3 fc3, .slice ia3 il3 ic3, .string (encA k L2).t] 24)); have rI3_7 := (rI3).on (bupK (Below.refl _ _) (.cells #[.slice fa3 fl3 fc3, .slice ia3 il3 ic3, .string (encA k L2).t] 24)); have ZL3 : w17.heap.size < (w17.alloc (.cells #[.slice fa3 fl3 fc3, .slice ia3 il3 ic3, .string (encA k L2).t] 24)).heap.size := (Array.getElem?_eq_some_iff.1 K3_7).1; have c10_7 := cell_rowK K1_7 0 _ rfl; have c11_7 := cell_rowK K1_7 1 _ rfl; have c12_7 := cell_rowK K1_7 2 _ rfl; have c20_7 := cell_rowK K2_7 0 _ rfl; have c21_7 := cell_rowK K2_7 1 _ rfl; have c22_7 := cell_rowK K2_7 2 _ rfl; have c30_7 := cell_rowK K3_7 0 _ rfl; have c31_7 := cell_rowK K3_7 1 _ rfl; have c32_7 := cell_rowK K3_7 2 _ rfl)
    | (refine wpList_store_kz rfl rfl _ _ _ rfl g p (.string (s1 ++ ⟨#[111]⟩)) (by first | rfl | simp [Act.eval]) (by first | rfl | simp [Act.eval]) _ (putAt cur 0 #[.string ⟨#[97, 110, 111, 116, 104, 101, 114, 46, 110, 97, 109, 101, 46, 116, 104, 97, 116, 46, 105, 115, 46, 108, 111, 110, 103]⟩]) (putAt (putAt cur 0 #[.string ⟨#[97, 110, 111, 116, 104, 101, 114, 46, 110, 97, 109, 101, 46, 116, 104, 97, 116, 46, 105, 115, 46, 108, 111, 110, 103]⟩]) p #[.string (s1 ++ ⟨#[111]⟩)]) G_5 (by kernel_rfl) FIT.out.2 rfl rfl ?_; intro V6 G_6 q6; have K1_6 := q6.keeps (by omega) K1_5; have K2_6 := q6.keeps (by omega) K2_5; have rF1_6 := (rF1_5).kq nF1 (by omega) q6; have rI1_6 := (rI1_5).kq nI1 (by omega) q6; have rF2_6 := (rF2_5).kq nF2 (by omega) q6; have rI2_6 := (rI2_5).kq nI2 (by omega) q6; have B_6 := q6.belowN B_5 (by omega) (Nat.le_refl _); have c10_6 := cell_rowK K1_6 0 _ rfl; have c11_6 := cell_rowK K1_6 1 _ rfl; have c12_6 := cell_rowK K1_6 2 _ rfl; have c20_6 := cell_rowK K2_6 0 _ rfl; have c21_6 := cell_rowK K2_6 1 _ rfl; have c22_6 := cell_rowK K2_6 2 _ rfl)
    | (refine wpList_store_kz rfl rfl _ _ _ rfl g 0 (.string ⟨#[97, 110, 111, 116, 104, 101, 114, 46, 110, 97, 109, 101, 46, 116, 104, 97, 116, 46, 105, 115, 46, 108, 111, 110, 103]⟩) (by first | rfl | simp [Act.eval]) (by first | rfl | simp [Act.eval]) _ cur (putAt cur 0 #[.string ⟨#[97, 110, 111, 116, 104, 101, 114, 46, 110, 97, 109, 101, 46, 116, 104, 97, 116, 46, 105, 115, 46, 108, 111, 110, 103]⟩]) G_4 (by kernel_rfl) FIT.out.1 rfl rfl ?_; intro V5 G_5 q5; have K1_5 := q5.keeps (by omega) K1_4; have K2_5 := q5.keeps (by omega) K2_4; have rF1_5 := (rF1_4).kq nF1 (by omega) q5; have rI1_5 := (rI1_4).kq nI1 (by omega) q5; have rF2_5 := (rF2_4).kq nF2 (by omega) q5; have rI2_5 := (rI2_4).kq nI2 (by omega) q5; have B_5 := q5.belowN B_4 (by omega) (Nat.le_refl _); have c10_5 := cell_rowK K1_5 0 _ rfl; have c11_5 := cell_rowK K1_5 1 _ rfl; have c12_5 := cell_rowK K1_5 2 _ rfl; have c20_5 := cell_rowK K2_5 0 _ rfl; have c21_5 := cell_rowK K2_5 1 _ rfl; have c22_5 := cell_rowK K2_5 2 _ rfl; have cp := cell_rowK G_5 p _ HC1.out)
    | (go_at_call 9; refine (same_c _ _ LL LL _ (rowS_firstN HLL.out.1 G_3 HFULL.out.1) (HROW.out.on B_3) (by have := HLL.out; have := tot_len LL; omega) (by have := HLL.out; have := tot_len LL; omega)).mono ?_; rintro e wa ⟨he, m6, hwa⟩; rw [decide_eq_true (rfl : LL = LL)] at he; subst he; subst wa; have hb4 := below_drewK (Below.refl w13.heap.size w13) m6; have SZ4 := hb4.size; have G_4 := hkeepK hb4 G_3; have K1_4 := hkeepK hb4 K1_3; have K2_4 := hkeepK hb4 K2_3; have rF1_4 := (rF1_3).on hb4; have rI1_4 := (rI1_3).on hb4; have rF2_4 := (rF2_3).on hb4; have rI2_4 := (rI2_3).on hb4; have B_4 := bel3K B_3 hb4; have c10_4 := cell_rowK K1_4 0 _ rfl; have c11_4 := cell_rowK K1_4 1 _ rfl; have c12_4 := cell_rowK K1_4 2 _ rfl; have c20_4 := cell_rowK K2_4 0 _ rfl; have c21_4 := cell_rowK K2_4 1 _ rfl; have c22_4 := cell_rowK K2_4 2 _ rfl; have fullc := cell_rowK G_3 (p + 1) _ HFULL.out.2)
    | (go_at_call 7; refine (alike_c (.slice fa1 fl1 fc1) (.slice fa2 fl2 fc2) (.slice ia1 il1 ic1) (.slice ia2 il2 ic2) (encA k LL).t _ ⟨_, rF1_2, rF2_2, HLNLL.out.1⟩ ⟨_, rI1_2, rI2_2, HLNLL.out.2⟩).mono ?_; rintro e w13 ⟨rfl, hb3⟩; have SZ3 := hb3.size; have G_3 := hkeepK hb3 G_2; have K1_3 := hkeepK hb3 K1_2; have K2_3 := hkeepK hb3 K2_2; have rF1_3 := (rF1_2).on hb3; have rI1_3 := (rI1_2).on hb3; have rF2_3 := (rF2_2).on hb3; have rI2_3 := (rI2_2).on hb3; have B_3 := bel3K B_2 hb3; have c10_3 := cell_rowK K1_3 0 _ rfl; have c11_3 := cell_rowK K1_3 1 _ rfl; have c12_3 := cell_rowK K1_3 2 _ rfl; have c20_3 := cell_rowK K2_3 0 _ rfl; have c21_3 := cell_rowK K2_3 1 _ rfl; have c22_3 := cell_rowK K2_3 2 _ rfl)
    | (go_at_call 6; refine (HR.out _ LL _ (HROW.out.on B_1) (by have := HLL.out; omega) B_1).mono ?_; rintro e w12 ⟨fa2, fl2, fc2, ia2, il2, ic2, rfl, rF2, rI2, hb2, nF2, nI2⟩; have SZ2 := hb2.size; have G_2 := hupK (hkeepK hb2 G_1) (.cells #[.slice fa2 fl2 fc2, .slice ia2 il2 ic2, .string (encA k LL).t] 24); have K1_2 := hupK (hkeepK hb2 K1_1) (.cells #[.slice fa2 fl2 fc2, .slice ia2 il2 ic2, .string (encA k LL).t] 24); have rF1_2 := ((rF1_1).on hb2).on (bupK (Below.refl _ _) (.cells #[.slice fa2 fl2 fc2, .slice ia2 il2 ic2, .string (encA k LL).t] 24)); have rI1_2 := ((rI1_1).on hb2).on (bupK (Below.refl _ _) (.cells #[.slice fa2 fl2 fc2, .slice ia2 il2 ic2, .string (encA k LL).t] 24)); have B_2 := bupK (bel3K B_1 hb2) (.cells #[.slice fa2 fl2 fc2, .slice ia2 il2 ic2, .string (encA k LL).t] 24); have K2_2 := heap_alloc_new w12 (.cells #[.slice fa2 fl2 fc2, .slice ia2 il2 ic2, .string (encA k LL).t] 24); have rF2_2 := (rF2).on (bupK (Below.refl _ _) (.cells #[.slice fa2 fl2 fc2, .slice ia2 il2 ic2, .string (encA k LL).t] 24)); have rI2_2 := (rI2).on (bupK (Below.refl _ _) (.cells #[.slice fa2 fl2 fc2, .slice ia2 il2 ic2, .string (encA k LL).t] 24)); have ZL2 : w12.heap.size < (w12.alloc (.cells #[.slice fa2 fl2 fc2, .slice ia2 il2 ic2, .string (encA k LL).t] 24)).heap.size := (Array.getElem?_eq_some_iff.1 K2_2).1; have c10_2 := cell_rowK K1_2 0 _ rfl; have c11_2 := cell_rowK K1_2 1 _ rfl; have c12_2 := cell_rowK K1_2 2 _ rfl; have c20_2 := cell_rowK K2_2 0 _ rfl; have c21_2 := cell_rowK K2_2 1 _ rfl; have c22_2 := cell_rowK K2_2 2 _ rfl)
    | (go_at_call 5; refine (HP.out _ LL _ (rowS_firstN HLL.out.1 G_0 HFULL.out.1) (by have := HLL.out; omega) B_0).mono ?_; rintro e w11 ⟨fa1, fl1, fc1, ia1, il1, ic1, rfl, rF1, rI1, hb1, nF1, nI1⟩; have SZ1 := hb1.size; have G_1 := hupK (hkeepK hb1 G_0) (.cells #[.slice fa1 fl1 fc1, .slice ia1 il1 ic1, .string (encA k LL).t] 24); have B_1 := bupK (bel3K B_0 hb1) (.cells #[.slice fa1 fl1 fc1, .slice ia1 il1 ic1, .string (encA k LL).t] 24); have K1_1 := heap_alloc_new w11 (.cells #[.slice fa1 fl1 fc1, .slice ia1 il1 ic1, .string (encA k LL).t] 24); have rF1_1 := (rF1).on (bupK (Below.refl _ _) (.cells #[.slice fa1 fl1 fc1, .slice ia1 il1 ic1, .string (encA k LL).t] 24)); have rI1_1 := (rI1).on (bupK (Below.refl _ _) (.cells #[.slice fa1 fl1 fc1, .slice ia1 il1 ic1, .string (encA k LL).t] 24)); have ZL1 : w11.heap.size < (w11.alloc (.cells #[.slice fa1 fl1 fc1, .slice ia1 il1 ic1, .string (encA k LL).t] 24)).heap.size := (Array.getElem?_eq_some_iff.1 K1_1).1; have c10_1 := cell_rowK K1_1 0 _ rfl; have c11_1 := cell_rowK K1_1 1 _ rfl; have c12_1 := cell_rowK K1_1 2 _ rfl)
    | (go_at_call 8; refine (HNm.out _ _).mono ?_; rintro e wa ⟨rfl, hwa⟩; subst wa)
  go_ret
  exact ⟨rfl, B_10⟩
end Go.Proofs.YtnplblficibkcaaDoor
