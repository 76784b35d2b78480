
-- IndexSize's walk.
import Derived.Test.YtcmldlcdgmmafaaDoorR1
import Derived.Laws.AppendOwnNone
import Derived.WalkSmall
import Derived.BigQuiet
import Derived.Deep.QuietTactic
import Derived.Deep.Draws
namespace Go.Proofs.YtcmldlcdgmmafaaDoor
open Go.ChangeShapes Go.WideShapes Go.ChangeAt Go.RowKit
set_option linter.unusedVariables false
set_option maxRecDepth 100000

def strV (l : List ByteArray) : List Value := l.map .string
theorem info9R : (Tryd.prog.info? 9).map (fun i => (i.zero, i.size, i.bytes)) = some (some (.string ⟨#[]⟩), 1, 16) := by kernel_rfl
theorem own_sliceR {w : World} {B : Nat} {e : TypeId} {s k : Nat} {v : Value} {xs : List Value} (h : w.ownsRow B e s v k xs) : ∃ a n c, v = .slice a n c := by
  rcases h.2 with ⟨rfl, _⟩ | ⟨g, cap, cur, rfl, _⟩
  · exact ⟨_, _, _, rfl⟩
  · exact ⟨_, _, _, rfl⟩
theorem num_cN (n : Int) (w : World) : Calls Tryd.prog 9 #[.int .i64 n] w fun e w' => e = .returned (.int .i64 n) ∧ w' = w := by
  go_enter Tryd.func9, Tryd.ntmps9
  go_wp2
  go_ret
  exact ⟨rfl, rfl⟩
theorem below_drewK {n : Nat} {a b : World} (h : Below n a b) (k : Nat) : Below n a (b.drewN k) := by
  induction k with
  | zero => exact h
  | succ k ih => exact ih.drew
theorem totN_set (l : List ByteArray) (i : Nat) (x : ByteArray) (h : i < l.length) : totN (l.set i x) + (l.getD i .empty).size = totN l + x.size := by
  induction l generalizing i with
  | nil => simp at h
  | cons y r ih =>
    cases i with
    | zero => rw [List.set_cons_zero]; simp only [totN]; show _ + y.size = _; omega
    | succ i => rw [List.set_cons_succ]; simp only [totN]; have := ih i (by simpa using h); show _ + (r.getD i .empty).size = _; omega
theorem strVget (l : List ByteArray) (j : Nat) (u : Value) (h : (strV l)[j]? = some u) : j < l.length ∧ u = .string (l.getD j .empty) := by
  unfold strV at h
  rw [List.getElem?_map] at h
  cases hj : l[j]? with
  | none => rw [hj] at h; cases h
  | some x =>
    rw [hj] at h
    have := (List.getElem?_eq_some_iff.1 hj).1
    refine ⟨this, ?_⟩
    simp only [Option.map_some, Option.some.injEq] at h
    rw [← h]; simp [List.getD, hj]
/-- the first n of a row of texts -/
theorem rowS_first {w : World} {g cap : Nat} {cur : Array Value} {l : List ByteArray} (h : w.heap[g]? = some (.cells cur 9 (0, 0))) (hc : ∀ j, j < l.length → cur[j]? = some (.string (l.getD j .empty))) : RowS w (.slice (some ⟨g, 0, none⟩) l.length cap) l := by
  refine .inr ⟨g, 0, cap, rfl, fun j hj => ?_⟩
  rw [Nat.zero_add]
  exact cell_rowK h j _ (hc j hj)
theorem putAt_one (old : Array Value) (i : Nat) (v : Value) (h : i < old.size) (j : Nat) : (putAt old i #[v])[j]? = if j = i then some v else old[j]? := by
  unfold putAt
  simp only [List.getElem?_toArray, List.getElem?_append, List.length_append, List.length_take, Array.length_toList]
  have e : min i old.size = i := by omega
  rw [e]
  by_cases h1 : j < i
  · simp [h1, show j < i + 1 by omega, show ¬ j = i by omega]
  · by_cases h2 : j = i
    · subst h2; simp
    · simp [h2, show ¬ j < i + 1 by omega, show i + 1 + (j - (i + 1)) = j by omega]
theorem putAt_size (old : Array Value) (i : Nat) (v : Value) (h : i < old.size) : (putAt old i #[v]).size = old.size := by
  unfold putAt; simp; omega
theorem getD_set (l : List ByteArray) (i j : Nat) (x : ByteArray) (hi : i < l.length) : (l.set i x).getD j .empty = if j = i then x else l.getD j .empty := by
  simp only [List.getD, List.getElem?_set]
  by_cases h : i = j
  · subst h; simp [hi]
  · simp [h, show ¬ j = i from fun q => h q.symm]
theorem rowS_firstN {w : World} {g cap n : Nat} {cur : Array Value} {l : List ByteArray} (hn : l.length = n) (h : w.heap[g]? = some (.cells cur 9 (0, 0))) (hc : ∀ j, j < l.length → cur[j]? = some (.string (l.getD j .empty))) : RowS w (.slice (some ⟨g, 0, none⟩) n cap) l := hn ▸ rowS_first h hc
theorem rowS_first_set {w : World} {g : Nat} {cur : Array Value} {l : List ByteArray} (i : Nat) (x : ByteArray) (hi : i < l.length) (hs : l.length ≤ cur.size) (hc : ∀ j, j < l.length → cur[j]? = some (.string (l.getD j .empty))) : ∀ j, j < (l.set i x).length → (putAt cur i #[.string x])[j]? = some (.string ((l.set i x).getD j .empty)) := by
  intro j hj
  rw [List.length_set] at hj
  rw [putAt_one cur i _ (by omega) j, getD_set l i j x hi]
  split
  · rfl
  · exact hc j hj
theorem own_full {w : World} {B n : Nat} {v : Value} {xs : List Value} (h : w.ownsRow B 9 1 v (n + 1) xs) : ∃ g cap cur, v = .slice (some ⟨g, 0, none⟩) (n + 1) cap ∧ B ≤ g ∧ w.heap[g]? = some (.cells cur 9 (0, 0)) ∧ n + 1 ≤ cap ∧ cap ≤ maxLen ∧ cur.size = cap * 1 ∧ cur.toList.take ((n + 1) * 1) = xs := by
  rcases h.2 with ⟨_, q⟩ | ⟨g, cap, cur, q1, q2, q3, q4, q5, q6, q7⟩
  · cases q
  · exact ⟨g, cap, cur, q1, q2, q3, q4, q5, q6, q7⟩
theorem full_cells {LL : List ByteArray} {p c : Nat} {cur : Array Value} {x : ByteArray} (hp : LL.length = p + 1) (hs : cur.size = c * 1) (ht : cur.toList.take ((p + 1 + 1) * 1) = strV LL ++ [.string x]) : (∀ j, j < LL.length → cur[j]? = some (.string (LL.getD j .empty))) ∧ cur[p + 1]? = some (.string x) := by
  have hl : (strV LL).length = p + 1 := by unfold strV; rw [List.length_map, hp]
  have key : ∀ j, j < p + 2 → cur[j]? = (strV LL ++ [.string x])[j]? := fun j hj => by
    rw [← ht, List.getElem?_take_of_lt (by omega)]; simp
  constructor
  · intro j hj
    rw [key j (by omega), List.getElem?_append_left (by omega)]
    unfold strV
    simp [List.getD, List.getElem?_eq_getElem hj]
  · rw [key (p + 1) (by omega), List.getElem?_append_right (by omega), hl]
    simp
theorem first_cell {c : Nat} {cur : Array Value} {x : Value} (hs : cur.size = c * 1) (hc : 0 + 1 ≤ c) (ht : cur.toList.take ((0 + 1) * 1) = [] ++ [x]) : cur[0]? = some x := by
  have h : (cur.toList.take 1)[0]? = some x := by rw [show (1 : Nat) = (0 + 1) * 1 from rfl, ht]; rfl
  rw [List.getElem?_take_of_lt (by decide)] at h
  simpa using h

set_option maxHeartbeats 4000000 in
theorem ns_pos (k : Int) (b off cap p : Nat) (LL : List ByteArray) (w : World) (hp : LL.length = p + 1) (hc : ∀ j, j < LL.length → w.cell? ⟨b, off + j, none⟩ = some (.string (LL.getD j .empty))) (ht : totN LL ≤ 1048575) :
    Calls Tryd.prog 3 #[.int .i64 k, .slice (some ⟨b, off, none⟩) (p + 1) cap] w fun e w' => e = .returned (.bool true) ∧ Below w.heap.size w w' := by
  obtain ⟨i9, hi9, hz9, hs9, hb9⟩ := info_parts info9R
  have hl := totN_len LL
  have hpb : p ≤ 1048575 := by omega
  have hrow : RowS w (.slice (some ⟨b, off, none⟩) (p + 1) cap) LL := by rw [← hp]; exact .inr ⟨b, off, cap, rfl, hc⟩
  have hnews : ∀ j u, (strV LL)[j]? = some u → w.cell? ((⟨b, off, none⟩ : Addr).add j) = some u := fun j u hu => by
    obtain ⟨h1, rfl⟩ := strVget LL j u hu
    rw [Addr.add_mid]; exact hc j h1
  have hone : ∀ u ∈ strV LL, u.oneCell' = true := fun u hu => by
    unfold strV at hu
    obtain ⟨x, _, rfl⟩ := List.mem_map.1 hu; rfl
  have hvl : (strV LL).length = (p + 1) * 1 := by unfold strV; rw [List.length_map, hp, Nat.mul_one]
  have HP : Hid (∀ (v : Value) (L : List ByteArray) (wx : World), RowS wx v L → totN L < 1099511627775 → Calls Tryd.prog 7 #[.int .i64 k, v] wx fun e w' => e = .returned (.tuple #[.int .i64 (sizeA k L).1, .int .i64 (sizeA k L).2]) ∧ Below wx.heap.size wx w') := fun v L wx h1 h2 => psize_c k v L wx h1 h2
  have HR : Hid (∀ (v : Value) (L : List ByteArray) (wx : World), RowS wx v L → totN L < 1099511627775 → Calls Tryd.prog 8 #[.int .i64 k, v] wx fun e w' => e = .returned (.tuple #[.int .i64 (sizeA k L).1, .int .i64 (sizeA k L).2]) ∧ w' = wx) := fun v L wx h1 h2 => rsize_c k v L wx h1 h2
  have HNm : Hid (∀ (n : Int) (w : World), Calls Tryd.prog 9 #[.int .i64 n] w fun e w' => e = .returned (.int .i64 n) ∧ w' = w) := fun n w => num_cN n w
  have HLL := hidK (And.intro hp ht)
  have HROW := hidK hrow
  have HNEW := hidK hnews
  have HONE := hidK hone
  have HVL := hidK hvl
  have HCL := hidK hc
  clear hrow hnews hone hvl hc hl hp ht
  go_enter Tryd.func3, Tryd.ntmps3
  go_wp2_with first
    | (refine wpList_append_own _ rfl (.const (.slice none 0 0)) (.tmp 12) 22 rfl w.heap.size 9 i9 (.string ⟨#[]⟩) 1 16 Tryd.underlying22 hi9 hz9 hs9 hb9 rfl (by decide) (.slice none 0 0) 0 [] rfl ⟨rfl, .inl ⟨rfl, rfl⟩⟩ ⟨b, off, none⟩ (p + 1) cap (strV LL) rfl HVL.out HNEW.out HONE.out (by unfold maxLen; omega) (by omega) (Nat.le_refl _) ?_; intro v1 w1 o1 g1 _; have hB1 : Below w.heap.size w w1 := (Below.refl _ _).grown g1 (Nat.le_refl _) (fun q hq => by cases hq); obtain ⟨x1, y1, z1, rfl⟩ := own_sliceR o1; rw [Nat.zero_add, List.nil_append] at o1)
    | (refine wpList_append_own _ rfl (.tmp 14) (.tmp 15) 22 rfl w.heap.size 9 i9 (.string ⟨#[]⟩) 1 16 Tryd.underlying22 hi9 hz9 hs9 hb9 rfl (by decide) (.slice x1 y1 z1) (p + 1) (strV LL) rfl (own_upK o1 (.cells #[.string ⟨#[98, 101, 104, 105, 110, 100]⟩] 9)) ⟨w1.heap.size, 0, none⟩ 1 1 [.string ⟨#[98, 101, 104, 105, 110, 100]⟩] rfl rfl (new_rowK w1 #[.string ⟨#[98, 101, 104, 105, 110, 100]⟩] 9 _ rfl) (by intro u hu; simp at hu; subst hu; rfl) (by unfold maxLen; omega) (by omega) (bupK hB1 (.cells #[.string ⟨#[98, 101, 104, 105, 110, 100]⟩] 9)).size ?_; intro v2 w2 o2 g2 _; have hB2 := below_grow (bupK hB1 (.cells #[.string ⟨#[98, 101, 104, 105, 110, 100]⟩] 9)) g2 (own_upK o1 (.cells #[.string ⟨#[98, 101, 104, 105, 110, 100]⟩] 9)) (Nat.le_refl _); obtain ⟨g, c2, cur, rfl, hgb, hgr, hgc, hgm, hgs, hgt⟩ := own_full o2; have HFULL := hidK (full_cells HLL.out.1 hgs hgt); have hgl : g < w2.heap.size := (Array.getElem?_eq_some_iff.1 hgr).1; have hgs' : cur.size = c2 := hgs.trans (Nat.mul_one _); clear hgt o2)
    | (go_at_call 7; refine (HP.out _ LL _ (rowS_firstN HLL.out.1 hgr HFULL.out.1) (by have := HLL.out; omega)).mono ?_; rintro e w3 ⟨rfl, hb3⟩; have G3 := hkeepK hb3 hgr; have B3 := bel3K hB2 hb3)
    | (go_at_call 8; refine (HR.out _ LL _ (HROW.out.on B3) (by have := HLL.out; omega)).mono ?_; rintro e w4 ⟨rfl, hw4⟩; subst w4)
  go_loopw [11] (fun i wx => ∃ j : Nat, j ≤ p + 1 ∧ i = .int .i64 j ∧ ∃ m, wx = w3.drewN m) (fun i _ => p + 1 - (intOf i).toNat)
  case atStart => exact ⟨0, Nat.zero_le _, rfl, 0, rfl⟩
  case round =>
    obtain ⟨j, hj, rfl, m, rfl⟩ := hrel
    by_cases hjn : j < p + 1
    · have ca := cell_rowK G3 j _ (HFULL.out.1 j (by have := HLL.out.1; omega))
      have cb0 := HCL.out j (by have := HLL.out.1; omega)
      have cb := (B3.cell (p := ⟨b, off + j, none⟩) (World.block_lt_of_cell? _ _ cb0)).trans cb0
      clear cb0
      have kI : (j : Int) < (p : Int) + 1 := by omega
      generalize LL.getD j .empty = x at ca cb
      have hbe : (x.toList == x.toList) = true := by simp
      go_wp2_with fail
      go_quiet (fail)
      go_wp2
      go_roundw
      case rel => exact ⟨j + 1, by omega, by go_num, _, rfl⟩
      case measure => simp [intOf]; omega
    · obtain rfl : j = p + 1 := by omega
      have G4 : (w3.drewN m).heap[g]? = some (.cells cur 9 (0, 0)) := G3
      have B4 : Below w.heap.size w (w3.drewN m) := below_drewK B3 m
      generalize w3.drewN m = w5 at G4 B4 ⊢
      have fullc := cell_rowK G4 (p + 1) _ HFULL.out.2
      have pz : ((p : Int) + 1 == 0) = false := by simp; omega
      have h0l : 0 < LL.length := by have := HLL.out.1; omega
      have F1 := rowS_first_set (w := w) (g := g) 0 ⟨#[97, 110, 111, 116, 104, 101, 114]⟩ h0l (by have := HLL.out.1; omega) HFULL.out.1
      have T1 : totN (LL.set 0 ⟨#[97, 110, 111, 116, 104, 101, 114]⟩) < 1099511627775 := by have := totN_set LL 0 ⟨#[97, 110, 111, 116, 104, 101, 114]⟩ h0l; have e : (⟨#[97, 110, 111, 116, 104, 101, 114]⟩ : ByteArray).size = 7 := rfl; have := HLL.out.2; omega
      have HL2 := hidK (And.intro (show (LL.set 0 ⟨#[97, 110, 111, 116, 104, 101, 114]⟩).length = p + 1 by rw [List.length_set]; exact HLL.out.1) (And.intro T1 F1))
      have fit0 := hidK (Nat.ble_eq_true_of_le (show 0 + 1 ≤ cur.size by omega))
      clear F1 T1 h0l
      generalize LL.set 0 ⟨#[97, 110, 111, 116, 104, 101, 114]⟩ = L2 at HL2
      go_wp2_with first
        | (go_at_call 7; refine (HP.out _ L2 _ (rowS_firstN HL2.out.1 G6 HL2.out.2.2) HL2.out.2.1).mono ?_; rintro e w7 ⟨rfl, hb7⟩; have G7 := hkeepK hb7 G6; have B7 := bel3K B6 hb7)
        | (go_at_call 8; refine (HR.out _ L2 _ (rowS_firstN HL2.out.1 G7 HL2.out.2.2) HL2.out.2.1).mono ?_; rintro e w8 ⟨rfl, hw8⟩; subst w8)
        | (go_at_call 9; refine (HNm.out _ _).mono ?_; rintro e wa ⟨rfl, hwa⟩; subst wa)
        | (refine wpList_store_kz rfl rfl _ _ _ rfl g 0 (.string ⟨#[97, 110, 111, 116, 104, 101, 114]⟩) (by first | rfl | simp [Act.eval]) (by first | rfl | simp [Act.eval]) _ cur (putAt cur 0 #[.string ⟨#[97, 110, 111, 116, 104, 101, 114]⟩]) G4 (by kernel_rfl) fit0.out rfl rfl ?_; intro w6 G6 q6; have B6 := q6.belowN B4 hgb (Nat.le_refl _))
      go_ret
      exact ⟨by simp, B7⟩
set_option maxHeartbeats 4000000 in
theorem ns_none (k : Int) (w : World) :
    Calls Tryd.prog 3 #[.int .i64 k, .slice none 0 0] w fun e w' => e = .returned (.bool true) ∧ Below w.heap.size w w' := by
  obtain ⟨i9, hi9, hz9, hs9, hb9⟩ := info_parts info9R
  have HP : Hid (∀ (v : Value) (L : List ByteArray) (wx : World), RowS wx v L → totN L < 1099511627775 → Calls Tryd.prog 7 #[.int .i64 k, v] wx fun e w' => e = .returned (.tuple #[.int .i64 (sizeA k L).1, .int .i64 (sizeA k L).2]) ∧ Below wx.heap.size wx w') := fun v L wx h1 h2 => psize_c k v L wx h1 h2
  have HR : Hid (∀ (v : Value) (L : List ByteArray) (wx : World), RowS wx v L → totN L < 1099511627775 → Calls Tryd.prog 8 #[.int .i64 k, v] wx fun e w' => e = .returned (.tuple #[.int .i64 (sizeA k L).1, .int .i64 (sizeA k L).2]) ∧ w' = wx) := fun v L wx h1 h2 => rsize_c k v L wx h1 h2
  have HNm : Hid (∀ (n : Int) (w : World), Calls Tryd.prog 9 #[.int .i64 n] w fun e w' => e = .returned (.int .i64 n) ∧ w' = w) := fun n w => num_cN n w
  go_enter Tryd.func3, Tryd.ntmps3
  go_wp2_with first
    | (refine wpList_append_own_none rfl (.const (.slice none 0 0)) (.tmp 12) 22 rfl w.heap.size 9 i9 1 Tryd.underlying22 hi9 (.slice none 0 0) 0 [] rfl ⟨rfl, .inl ⟨rfl, rfl⟩⟩ rfl ?_; have hB1 : Below w.heap.size w w := Below.refl _ _)
    | (refine wpList_append_own _ rfl (.tmp 14) (.tmp 15) 22 rfl w.heap.size 9 i9 (.string ⟨#[]⟩) 1 16 Tryd.underlying22 hi9 hz9 hs9 hb9 rfl (by decide) (.slice none 0 0) 0 [] rfl ⟨rfl, .inl ⟨rfl, rfl⟩⟩ ⟨w.heap.size, 0, none⟩ 1 1 [.string ⟨#[98, 101, 104, 105, 110, 100]⟩] rfl rfl (new_rowK w #[.string ⟨#[98, 101, 104, 105, 110, 100]⟩] 9 _ rfl) (by intro u hu; simp at hu; subst hu; rfl) (by unfold maxLen; omega) (by omega) (bupK hB1 (.cells #[.string ⟨#[98, 101, 104, 105, 110, 100]⟩] 9)).size ?_; intro v2 w2 o2 g2 _; have hB2 : Below w.heap.size w w2 := (bupK hB1 (.cells #[.string ⟨#[98, 101, 104, 105, 110, 100]⟩] 9)).trans ((Below.refl _ _).grown g2 (bupK hB1 (.cells #[.string ⟨#[98, 101, 104, 105, 110, 100]⟩] 9)).size (fun q hq => by cases hq)); obtain ⟨g, c2, cur, rfl, hgb, hgr, hgc, hgm, hgs, hgt⟩ := own_full o2; have HFULL := hidK (first_cell hgs hgc hgt); have hgl : g < w2.heap.size := (Array.getElem?_eq_some_iff.1 hgr).1; clear hgt o2)
    | (go_at_call 7; refine (HP.out _ [] _ (.inl ⟨rfl, _, _, rfl⟩) (by decide)).mono ?_; rintro e w3 ⟨rfl, hb3⟩; have G3 := hkeepK hb3 hgr; have B3 := bel3K hB2 hb3; have fullc := cell_rowK G3 0 _ HFULL.out)
    | (go_at_call 8; refine (HR.out _ [] _ (.inl ⟨rfl, _, _, rfl⟩) (by decide)).mono ?_; rintro e w4 ⟨rfl, hw4⟩; subst w4)
  go_rounds 1
  go_wp2_with first
    | (go_at_call 9; refine (HNm.out _ _).mono ?_; rintro e wa ⟨rfl, hwa⟩; subst wa)
  go_ret
  exact ⟨by simp, B3⟩
set_option maxHeartbeats 4000000 in
theorem ns_zero (k : Int) (ad : Addr) (cap : Nat) (w : World) :
    Calls Tryd.prog 3 #[.int .i64 k, .slice (some ad) 0 cap] w fun e w' => e = .returned (.bool true) ∧ Below w.heap.size w w' := by
  obtain ⟨i9, hi9, hz9, hs9, hb9⟩ := info_parts info9R
  have HP : Hid (∀ (v : Value) (L : List ByteArray) (wx : World), RowS wx v L → totN L < 1099511627775 → Calls Tryd.prog 7 #[.int .i64 k, v] wx fun e w' => e = .returned (.tuple #[.int .i64 (sizeA k L).1, .int .i64 (sizeA k L).2]) ∧ Below wx.heap.size wx w') := fun v L wx h1 h2 => psize_c k v L wx h1 h2
  have HR : Hid (∀ (v : Value) (L : List ByteArray) (wx : World), RowS wx v L → totN L < 1099511627775 → Calls Tryd.prog 8 #[.int .i64 k, v] wx fun e w' => e = .returned (.tuple #[.int .i64 (sizeA k L).1, .int .i64 (sizeA k L).2]) ∧ w' = wx) := fun v L wx h1 h2 => rsize_c k v L wx h1 h2
  have HNm : Hid (∀ (n : Int) (w : World), Calls Tryd.prog 9 #[.int .i64 n] w fun e w' => e = .returned (.int .i64 n) ∧ w' = w) := fun n w => num_cN n w
  go_enter Tryd.func3, Tryd.ntmps3
  go_wp2_with first
    | (refine wpList_append_own _ rfl (.const (.slice none 0 0)) (.tmp 12) 22 rfl w.heap.size 9 i9 (.string ⟨#[]⟩) 1 16 Tryd.underlying22 hi9 hz9 hs9 hb9 rfl (by decide) (.slice none 0 0) 0 [] rfl ⟨rfl, .inl ⟨rfl, rfl⟩⟩ ad 0 cap [] rfl rfl (fun j u h => by simp at h) (fun u h => by simp at h) (by unfold maxLen; omega) (by omega) (Nat.le_refl _) ?_; intro v1 w1 o1 g1 hn1; have hB1 : Below w.heap.size w w1 := (Below.refl _ _).grown g1 (Nat.le_refl _) (fun q hq => by cases hq); obtain rfl := hn1.2 ⟨rfl, rfl⟩; clear o1 hn1)
    | (refine wpList_append_own _ rfl (.tmp 14) (.tmp 15) 22 rfl w.heap.size 9 i9 (.string ⟨#[]⟩) 1 16 Tryd.underlying22 hi9 hz9 hs9 hb9 rfl (by decide) (.slice none 0 0) 0 [] rfl ⟨rfl, .inl ⟨rfl, rfl⟩⟩ ⟨w1.heap.size, 0, none⟩ 1 1 [.string ⟨#[98, 101, 104, 105, 110, 100]⟩] rfl rfl (new_rowK w1 #[.string ⟨#[98, 101, 104, 105, 110, 100]⟩] 9 _ rfl) (by intro u hu; simp at hu; subst hu; rfl) (by unfold maxLen; omega) (by omega) (bupK hB1 (.cells #[.string ⟨#[98, 101, 104, 105, 110, 100]⟩] 9)).size ?_; intro v2 w2 o2 g2 _; have hB2 : Below w.heap.size w w2 := (bupK hB1 (.cells #[.string ⟨#[98, 101, 104, 105, 110, 100]⟩] 9)).trans ((Below.refl _ _).grown g2 (bupK hB1 (.cells #[.string ⟨#[98, 101, 104, 105, 110, 100]⟩] 9)).size (fun q hq => by cases hq)); obtain ⟨g, c2, cur, rfl, hgb, hgr, hgc, hgm, hgs, hgt⟩ := own_full o2; have HFULL := hidK (first_cell hgs hgc hgt); have hgl : g < w2.heap.size := (Array.getElem?_eq_some_iff.1 hgr).1; clear hgt o2)
    | (go_at_call 7; refine (HP.out _ [] _ (.inl ⟨rfl, _, _, rfl⟩) (by decide)).mono ?_; rintro e w3 ⟨rfl, hb3⟩; have G3 := hkeepK hb3 hgr; have B3 := bel3K hB2 hb3; have fullc := cell_rowK G3 0 _ HFULL.out)
    | (go_at_call 8; refine (HR.out _ [] _ (.inl ⟨rfl, _, _, rfl⟩) (by decide)).mono ?_; rintro e w4 ⟨rfl, hw4⟩; subst w4)
  go_rounds 1
  go_wp2_with first
    | (go_at_call 9; refine (HNm.out _ _).mono ?_; rintro e wa ⟨rfl, hwa⟩; subst wa)
  go_ret
  exact ⟨by simp, B3⟩
theorem indexSize_w (k : Int) (a1 : Value) (l1 : List ByteArray) (w : World) (w1 : RowS w a1 l1) (t1 : totN l1 ≤ 1048575) (f1 : a1 = .slice none 0 0 ∨ ∃ ad l c, a1 = .slice (some ad) l c) :
    Calls Tryd.prog 3 #[.int .i64 k, a1] w fun e w' => e = .returned (.bool true) ∧ Below w.heap.size w w' := by
  rcases f1 with rfl | ⟨ad, l, c, rfl⟩
  · exact ns_none k w
  · rcases w1 with ⟨rfl, ao, c', e⟩ | ⟨b, off, cap, e, hc⟩
    · injection e with e1 e2 e3
      subst e2
      exact ns_zero k ad c w
    · injection e with e1 e2 e3
      injection e1 with e1
      subst e1
      cases hl : l1.length with
      | zero => rw [hl] at e2; subst e2; exact ns_zero k _ c w
      | succ p => rw [hl] at e2; subst e2; exact ns_pos k b off c p l1 w hl hc t1
end Go.Proofs.YtcmldlcdgmmafaaDoor
