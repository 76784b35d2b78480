
-- Lists of sections that are written over: a contract of shelflaw5.mark.
import Derived.Test.YtoikagccopglkaaDoorGK
import Derived.LoopTactic
import Derived.WalkSmall
import Derived.Laws.StructEq
import Derived.Laws.Cover2
namespace Go.Proofs.YtoikagccopglkaaDoor
open Go.ChangeShapes Go.WideShapes Go.ChangeAt Go.RowKit
set_option linter.unusedVariables false
set_option maxRecDepth 100000
theorem info_parts {P : Program} {e : TypeId} {z : Option Value} {s b : Nat} (h : (P.info? e).map (fun i => (i.zero, i.size, i.bytes)) = some (z, s, b)) : ∃ i, P.info? e = some i ∧ i.zero = z ∧ i.size = s ∧ i.bytes = b := by
  cases hq : P.info? e with
  | none => rw [hq] at h; cases h
  | some i =>
    rw [hq] at h
    simp at h
    exact ⟨i, rfl, h.1, h.2.1, h.2.2⟩
theorem cell_rowG {w : World} {k : Nat} {cs : Array Value} {t : TypeId} (h : w.heap[k]? = some (.cells cs t (0, 0))) (i : Nat) (v : Value) (hv : cs[i]? = some v) : w.cell? ⟨k, i, none⟩ = some v := by
  simp [World.cell?, h, hv]
theorem hidK {p : Prop} (h : p) : Hid p := h
structure S8 where
  a : Int
  b : Int
  c : Int
  d : Int
  e : Int
  f : Int
  g : Int
  h : Int
def S8.v (x : S8) : List Value := [.int .i64 x.a, .int .i64 x.b, .int .u64 x.c, .int .i64 x.d, .int .i64 x.e, .int .u64 x.f, .int .u64 x.g, .int .u64 x.h]
theorem S8.len (x : S8) : x.v.length = 8 := rfl
theorem S8.one (x : S8) : ∀ u ∈ x.v, u.oneCell' = true := by
  intro u hu
  simp only [S8.v, List.mem_cons, List.not_mem_nil, or_false] at hu
  rcases hu with rfl | rfl | rfl | rfl | rfl | rfl | rfl | rfl <;> rfl
def mkX (z : Int) : S8 := ⟨z, z, 0, 0, 0, 0, 0, 0⟩
def agX (z : Int) : S8 := ⟨z, z + 1, 0, 0, 0, 0, 0, 0⟩
def fsX (z : Int) : S8 := ⟨z, 0, 0, 0, 0, 0, 0, 0⟩
/-- Each of a list is the mark. -/
def Mk8 (k : Int) (l : List S8) : Prop := ∀ (j : Nat) (x : S8), l[j]? = some x → x = mkX k ∨ x = agX k
theorem Mk8.snoc {k : Int} {l : List S8} (h : Mk8 k l) (x : S8) (hx : x = mkX k ∨ x = agX k) : Mk8 k (l ++ [x]) := by
  intro j y hy
  by_cases e : j < l.length
  · rw [List.getElem?_append_left e] at hy; exact h j y hy
  · rw [List.getElem?_append_right (by omega)] at hy
    by_cases e2 : j - l.length = 0
    · rw [e2] at hy; injection hy with hy; rw [← hy]; exact hx
    · rw [List.getElem?_eq_none (by simp; omega)] at hy; cases hy
theorem infoS8 : (Tryd.prog.info? 48).map (fun i => (i.zero, i.size, i.bytes)) = some (some (.agg #[.int .i64 0, .int .i64 0, .int .u64 0, .int .i64 0, .int .i64 0, .int .u64 0, .int .u64 0, .int .u64 0]), 8, 64) := by kernel_rfl
theorem sec_new (w : World) (x : S8) : ∀ j u, x.v[j]? = some u → (w.alloc (.cells x.v.toArray 48)).cell? (Addr.add ⟨w.heap.size, 0, none⟩ j) = some u := by
  intro j u hu
  rw [Addr.add_mid, Nat.zero_add]
  exact cell_rowG (heap_alloc_new w _) j u (by simpa using hu)
theorem snoc8 (l : List S8) (x : S8) : l.flatMap S8.v ++ x.v = (l ++ [x]).flatMap S8.v := by simp
def Marked8 (k : Int) (B : Nat) (v : Value) (n : Nat) (w w' : World) (e : Ending) : Prop :=
  e = .returned (.tuple #[]) ∧ ∃ l' : List S8, l'.length = n ∧ Mk8 k l' ∧ w'.ownsRow B 48 8 v n (l'.flatMap S8.v) ∧ w.grownBy w' v.ownBlock
theorem mks_step {z : Int} {L : List S8} {k : Nat} (h : Mk8 z (L.take k)) : Mk8 z ((L.set k (mkX z)).take (k + 1)) := by
  intro j x hx
  have hj : j < k + 1 := by have := (List.getElem?_eq_some_iff.1 hx).1; rw [List.length_take] at this; omega
  rw [List.getElem?_take_of_lt hj, List.getElem?_set] at hx
  by_cases e : k = j
  · rw [if_pos e] at hx
    split at hx
    · injection hx with hx; rw [← hx]; exact .inl rfl
    · cases hx
  · rw [if_neg e] at hx
    exact h j x (by rw [List.getElem?_take_of_lt (by omega)]; exact hx)
theorem mks_set_take {z : Int} {L : List S8} {k j : Nat} (h : Mk8 z (L.take k)) : Mk8 z ((L.set j (agX z)).take k) := by
  intro i x hx
  have hj : i < k := by have := (List.getElem?_eq_some_iff.1 hx).1; rw [List.length_take] at this; omega
  rw [List.getElem?_take_of_lt hj, List.getElem?_set] at hx
  by_cases e : j = i
  · rw [if_pos e] at hx
    split at hx
    · injection hx with hx; rw [← hx]; exact .inr rfl
    · cases hx
  · rw [if_neg e] at hx
    exact h i x (by rw [List.getElem?_take_of_lt hj]; exact hx)
set_option maxHeartbeats 4000000 in
theorem mark5_fit (g cap n : Nat) (l : List S8) (z : Int) (w : World) (B : Nat) (h : w.ownsRow B 48 8 (.slice (some ⟨g, 0, none⟩) n cap) n (l.flatMap S8.v)) (hB : B ≤ w.heap.size) (hl : n ≤ 4194304) (hz0 : 0 ≤ z) (hz9 : z ≤ 1000) (hfit : n + 1 ≤ cap) :
    Calls Tryd.prog 7 #[.slice (some ⟨g, 0, none⟩) n cap, .int .i64 z] w fun e w' => Marked8 z B (.slice (some ⟨g, 0, none⟩) n cap) n w w' e := by
  obtain ⟨i0, hi, hi0, hi1, hi2⟩ := info_parts infoS8
  have HL : Hid (l.length = n) := (by obtain ⟨cur, r1, r2, r3, r4, r5, r6, r7⟩ := ownG_cur S8.v 8 (by decide) S8.len h; exact r7)
  go_enter Tryd.func7, Tryd.ntmps7
  go_wp2
  go_loopw [4] (fun i wx => ∃ k : Nat, i = .int .i64 k ∧ k ≤ n ∧ ∃ L : List S8, L.length = n ∧ Mk8 z (L.take k) ∧ wx.ownsRow B 48 8 (.slice (some ⟨g, 0, none⟩) n cap) n (L.flatMap S8.v) ∧ w.grownBy wx (some g)) (fun i _ => n - (intOf i).toNat)
  case atStart => exact ⟨0, rfl, Nat.zero_le _, l, HL.out, fun j x hx => by simp at hx, h, World.grownBy.refl _ _⟩
  case round =>
    obtain ⟨k, rfl, hkn, L, hLl, hLk, hown, hgr⟩ := hrel
    have HLK := hidK hLk
    have HLL := hidK hLl
    have HGR := hidK hgr
    clear hLk hLl hgr
    by_cases hk : k < n
    · have kI : (k : Int) < (n : Int) := by omega
      have k0 : (0 : Int) ≤ (k : Int) := by omega
      obtain ⟨cur, r1, r2, r3, r4, r5, r6, r7⟩ := ownG_cur S8.v 8 (by decide) S8.len hown
      have hf := hidK (Nat.ble_eq_true_of_le (show k * 8 + 8 ≤ cur.size by omega))
      have HR := hidK (And.intro r2 (And.intro r3 (And.intro r4 (And.intro r5 (And.intro r6 r7)))))
      clear r2 r3 r4 r5 r6 r7 hown
      go_wp2_with (refine wpList_store_row_G rfl rfl _ _ _ rfl g (k * 8) (.agg #[.int .i64 z, .int .i64 z, .int .u64 0, .int .i64 0, .int .i64 0, .int .u64 0, .int .u64 0, .int .u64 0]) (by first | rfl | (simp [Act.eval]; done) | (simp [Act.eval]; omega)) rfl _ _ (putG cur (k * 8) #[.int .i64 z, .int .i64 z, .int .u64 0, .int .i64 0, .int .i64 0, .int .u64 0, .int .u64 0, .int .u64 0]) r1 (by kernel_rfl) hf.out rfl rfl ?_; intro w5 R5 q5)
      go_roundw
      case rel =>
        obtain ⟨r2, r3, r4, r5, r6, r7⟩ := HR.out
        exact ⟨k + 1, by go_num, by omega, L.set k (mkX z), by rw [List.length_set]; exact r7, mks_step HLK.out, ownG_put S8.v 8 S8.len (mkX z) hk r2 r3 r4 r5 r6 r7 R5, grownG_trans HGR.out q5⟩
      case measure => simp [intOf]; omega
    · obtain rfl : k = n := by omega
      have HM1 : Hid (Mk8 z L) := (by have := HLK.out; rw [List.take_of_length_le (by rw [HLL.out]; exact Nat.le_refl _)] at this; exact this)
      clear HLK
      go_wp2_with (at_builtin; refine wpList_append_fits _ rfl _ _ 22 rfl B 48 i0 8 Tryd.underlying22 hi hi1 g k cap (L.flatMap S8.v) rfl (hown.alloc _) ⟨wr.heap.size, 0, none⟩ 1 1 (fsX z).v rfl rfl (sec_new wr (fsX z)) (S8.one (fsX z)) hfit ?_)
      intro w2 ho2 hg2
      have hgw := hidK (grownG_trans (grownG_trans HGR.out (World.grownBy_alloc wr _ _)) hg2)
      rw [snoc8 L (fsX z)] at ho2
      clear hg2 HGR hown
      obtain ⟨N, hN⟩ : ∃ N, N = k + 1 := ⟨_, rfl⟩
      rw [← hN] at ho2 ⊢
      have HN1 : Hid (N = k + 1) := hN
      have hNl : N ≤ 4194305 := by omega
      have HM2 : Hid (Mk8 z ((L ++ [(fsX z)]).take k)) := (by show Mk8 _ _; rw [List.take_append_of_le_length (by rw [HLL.out]; exact Nat.le_refl _), List.take_of_length_le (by rw [HLL.out]; exact Nat.le_refl _)]; exact HM1.out)
      have HLN : Hid ((L ++ [(fsX z)] : List S8).length = N) := (by show _ = _; rw [List.length_append, HLL.out, hN]; rfl)
      clear hN HM1
      go_wp2
      go_loopw [6] (fun i wx => ∃ j : Nat, i = .int .i64 j ∧ j ≤ N ∧ ∃ L2 : List S8, L2.length = N ∧ Mk8 z (L2.take k) ∧ wx.ownsRow B 48 8 (.slice (some ⟨g, 0, none⟩) N cap) N (L2.flatMap S8.v) ∧ w2.grownBy wx (some g)) (fun i _ => N - (intOf i).toNat)
      case atStart => exact ⟨0, rfl, Nat.zero_le _, L ++ [(fsX z)], HLN.out, HM2.out, ho2, World.grownBy.refl _ _⟩
      case round =>
        obtain ⟨j, rfl, hjn, L2, hL2, hM2, hown2, hgr2⟩ := hrel
        have HM3 := hidK hM2
        have HL3 := hidK hL2
        have HG3 := hidK hgr2
        clear hM2 hL2 hgr2 ho2
        by_cases hj : j < N
        · have kI : (j : Int) < (N : Int) := by omega
          have k0 : (0 : Int) ≤ (j : Int) := by omega
          obtain ⟨cur, r1, r2, r3, r4, r5, r6, r7⟩ := ownG_cur S8.v 8 (by decide) S8.len hown2
          have hf := hidK (Nat.ble_eq_true_of_le (show j * 8 + 8 ≤ cur.size by omega))
          have HR := hidK (And.intro r2 (And.intro r3 (And.intro r4 (And.intro r5 (And.intro r6 r7)))))
          clear r2 r3 r4 r5 r6 r7 hown2
          go_wp2_with (refine wpList_store_row_G rfl rfl _ _ _ rfl g (j * 8) (.agg #[.int .i64 z, .int .i64 (z + 1), .int .u64 0, .int .i64 0, .int .i64 0, .int .u64 0, .int .u64 0, .int .u64 0]) (by first | rfl | (simp [Act.eval]; done) | (simp [Act.eval]; omega)) rfl _ _ (putG cur (j * 8) #[.int .i64 z, .int .i64 (z + 1), .int .u64 0, .int .i64 0, .int .i64 0, .int .u64 0, .int .u64 0, .int .u64 0]) r1 (by kernel_rfl) hf.out rfl rfl ?_; intro w5 R5 q5)
          go_roundw
          case rel =>
            obtain ⟨r2, r3, r4, r5, r6, r7⟩ := HR.out
            exact ⟨j + 1, by go_num, by omega, L2.set j (agX z), by rw [List.length_set]; exact r7, mks_set_take HM3.out, ownG_put S8.v 8 S8.len (agX z) hj r2 r3 r4 r5 r6 r7 R5, grownG_trans HG3.out q5⟩
          case measure => simp [intOf]; omega
        · obtain rfl : j = N := by omega
          go_wp2
          go_end0
          refine ⟨rfl, L2.take k, ?_, HM3.out, ownG_prefix S8.v 8 (by decide) S8.len hown2 (by have := HN1.out; omega), grownG_trans hgw.out HG3.out⟩
          rw [List.length_take, HL3.out]; have := HN1.out; omega
set_option maxHeartbeats 4000000 in
theorem mark5_full (ao : Option Addr) (cap n : Nat) (l : List S8) (z : Int) (w : World) (B : Nat) (h : w.ownsRow B 48 8 (.slice ao n cap) n (l.flatMap S8.v)) (hB : B ≤ w.heap.size) (hl : n ≤ 4194304) (hz0 : 0 ≤ z) (hz9 : z ≤ 1000) (hfull : cap < n + 1)
    (HS : Hid (∀ a, ao = some a → ∃ g, a = ⟨g, 0, none⟩ ∧ B ≤ g ∧ g < w.heap.size)) (HN : Hid (ao = none → n = 0 ∧ cap = 0)) (HL : Hid (l.length = n)) :
    Calls Tryd.prog 7 #[.slice ao n cap, .int .i64 z] w fun e w' => Marked8 z B (.slice ao n cap) n w w' e := by
  obtain ⟨i0, hi, hi0, hi1, hi2⟩ := info_parts infoS8
  have hbm : n + 1 ≤ maxLen := by unfold maxLen; omega
  have hbb : (n + 1) * 64 ≤ 140737488355328 := by omega
  go_enter Tryd.func7, Tryd.ntmps7
  go_wp2
  go_loopw [4] (fun i wx => ∃ k : Nat, i = .int .i64 k ∧ k ≤ n ∧ ∃ L : List S8, L.length = n ∧ Mk8 z (L.take k) ∧ wx.ownsRow B 48 8 (.slice ao n cap) n (L.flatMap S8.v) ∧ w.grownBy wx (Value.slice ao n cap).ownBlock) (fun i _ => n - (intOf i).toNat)
  case atStart => exact ⟨0, rfl, Nat.zero_le _, l, HL.out, fun j x hx => by simp at hx, h, World.grownBy.refl _ _⟩
  case round =>
    obtain ⟨k, rfl, hkn, L, hLl, hLk, hown, hgr⟩ := hrel
    have HLK := hidK hLk
    have HLL := hidK hLl
    have HGR := hidK hgr
    have hws := hgr.size
    clear hLk hLl hgr
    by_cases hk : k < n
    · obtain ⟨g, rfl⟩ : ∃ g, ao = some ⟨g, 0, none⟩ := by
        rcases ao with _ | a
        · have := HN.out rfl; omega
        · obtain ⟨g, rfl, _⟩ := HS.out a rfl
          exact ⟨g, rfl⟩
      have kI : (k : Int) < (n : Int) := by omega
      have k0 : (0 : Int) ≤ (k : Int) := by omega
      obtain ⟨cur, r1, r2, r3, r4, r5, r6, r7⟩ := ownG_cur S8.v 8 (by decide) S8.len hown
      have hf := hidK (Nat.ble_eq_true_of_le (show k * 8 + 8 ≤ cur.size by omega))
      have HR := hidK (And.intro r2 (And.intro r3 (And.intro r4 (And.intro r5 (And.intro r6 r7)))))
      clear r2 r3 r4 r5 r6 r7 hown
      go_wp2_with (refine wpList_store_row_G rfl rfl _ _ _ rfl g (k * 8) (.agg #[.int .i64 z, .int .i64 z, .int .u64 0, .int .i64 0, .int .i64 0, .int .u64 0, .int .u64 0, .int .u64 0]) (by first | rfl | (simp [Act.eval]; done) | (simp [Act.eval]; omega)) rfl _ _ (putG cur (k * 8) #[.int .i64 z, .int .i64 z, .int .u64 0, .int .i64 0, .int .i64 0, .int .u64 0, .int .u64 0, .int .u64 0]) r1 (by kernel_rfl) hf.out rfl rfl ?_; intro w5 R5 q5)
      go_roundw
      case rel =>
        obtain ⟨r2, r3, r4, r5, r6, r7⟩ := HR.out
        exact ⟨k + 1, by go_num, by omega, L.set k (mkX z), by rw [List.length_set]; exact r7, mks_step HLK.out, ownG_put S8.v 8 S8.len (mkX z) hk r2 r3 r4 r5 r6 r7 R5, grownG_trans HGR.out q5⟩
      case measure => simp [intOf]; omega
    · obtain rfl : k = n := by omega
      have HM1 : Hid (Mk8 z L) := (by have := HLK.out; rw [List.take_of_length_le (by rw [HLL.out]; exact Nat.le_refl _)] at this; exact this)
      clear HLK
      go_wp2_with (at_builtin; refine wpList_append_grows _ rfl _ _ 22 rfl 48 i0 (.agg #[.int .i64 0, .int .i64 0, .int .u64 0, .int .i64 0, .int .i64 0, .int .u64 0, .int .u64 0, .int .u64 0]) 8 64 Tryd.underlying22 hi hi0 hi1 hi2 rfl (by decide) ao k cap (L.flatMap S8.v) rfl HN.out ?c0 ?c3 ⟨wr.heap.size, 0, none⟩ 1 1 (fsX z).v rfl rfl (sec_new wr (fsX z)) (S8.one (fsX z)) hfull hbm hbb ?_)
      case c0 => rw [flatG_len S8.v 8 S8.len, HLL.out]
      case c3 =>
        intro b hb j u hj
        exact (hown.alloc _).cells (g := b.block) (by rw [hb]; rfl) j u hj |> fun t => by
          obtain ⟨g, rfl, _⟩ := HS.out b hb
          exact t
      intro v2 w2 ho2 hg2
      have hgw := hidK (grownG_new (grownG_trans HGR.out (World.grownBy_alloc wr _ _)) hg2 (fun i h => by cases h))
      have hown3 := hidK (show w2.ownsRow B 48 8 (.slice ao k cap) k (L.flatMap S8.v) from (hown.alloc _).kept hg2 (by rcases ao with _ | a; exact .inl rfl; exact .inr (by simp [Value.ownBlock])))
      rw [snoc8 L (fsX z)] at ho2
      obtain ⟨ao2, cap2, rfl, hnc2, _, hnone2, hsome2⟩ := ownG_form 8 ho2
      obtain ⟨g2, rfl, hg2b, hg2w⟩ : ∃ g2, ao2 = some ⟨g2, 0, none⟩ ∧ wr.heap.size + 1 ≤ g2 ∧ g2 < w2.heap.size := by
        rcases ao2 with _ | a
        · have := hnone2 rfl; omega
        · obtain ⟨g2, rfl, h1, h2⟩ := hsome2 a rfl
          exact ⟨g2, rfl, by simpa using h1, h2⟩
      have HAO : Hid (∀ i, (Value.slice ao k cap).ownBlock = some i → i < g2) := fun i hi => by have := (hown.lt i hi).2; omega
      have HM9 := HM1
      clear hg2 HGR hown hnone2 hsome2
      obtain ⟨wr0, hwr0⟩ : ∃ wr0, wr0 = wr.heap.size := ⟨_, rfl⟩
      have ho2 : w2.ownsRow (wr0 + 1) 48 8 (.slice (some ⟨g2, 0, none⟩) (k + 1) cap2) (k + 1) (((L ++ [(fsX z)]).flatMap S8.v)) := by rw [hwr0]; simpa using ho2
      obtain ⟨N, hN⟩ : ∃ N, N = k + 1 := ⟨_, rfl⟩
      rw [← hN] at ho2 ⊢
      have hNl : N ≤ 4194305 := by omega
      have HLN : Hid ((L ++ [(fsX z)] : List S8).length = N) := (by show _ = _; rw [List.length_append, HLL.out, hN]; rfl)
      have hww : w.heap.size ≤ g2 := by omega
      clear hN HM1 hwr0
      go_wp2
      go_loopw [6] (fun i wx => ∃ j : Nat, i = .int .i64 j ∧ j ≤ N ∧ ∃ L2 : List S8, L2.length = N ∧ wx.ownsRow (wr0 + 1) 48 8 (.slice (some ⟨g2, 0, none⟩) N cap2) N (L2.flatMap S8.v) ∧ w2.grownBy wx (some g2)) (fun i _ => N - (intOf i).toNat)
      case atStart => exact ⟨0, rfl, Nat.zero_le _, L ++ [(fsX z)], HLN.out, ho2, World.grownBy.refl _ _⟩
      case round =>
        obtain ⟨j, rfl, hjn, L2, hL2, hown2, hgr2⟩ := hrel
        have HL3 := hidK hL2
        have HG3 := hidK hgr2
        clear hL2 hgr2 ho2
        by_cases hj : j < N
        · have kI : (j : Int) < (N : Int) := by omega
          have k0 : (0 : Int) ≤ (j : Int) := by omega
          obtain ⟨cur, r1, r2, r3, r4, r5, r6, r7⟩ := ownG_cur S8.v 8 (by decide) S8.len hown2
          have hf := hidK (Nat.ble_eq_true_of_le (show j * 8 + 8 ≤ cur.size by omega))
          have HR := hidK (And.intro r2 (And.intro r3 (And.intro r4 (And.intro r5 (And.intro r6 r7)))))
          clear r2 r3 r4 r5 r6 r7 hown2
          go_wp2_with (refine wpList_store_row_G rfl rfl _ _ _ rfl g2 (j * 8) (.agg #[.int .i64 z, .int .i64 (z + 1), .int .u64 0, .int .i64 0, .int .i64 0, .int .u64 0, .int .u64 0, .int .u64 0]) (by first | rfl | (simp [Act.eval]; done) | (simp [Act.eval]; omega)) rfl _ _ (putG cur (j * 8) #[.int .i64 z, .int .i64 (z + 1), .int .u64 0, .int .i64 0, .int .i64 0, .int .u64 0, .int .u64 0, .int .u64 0]) r1 (by kernel_rfl) hf.out rfl rfl ?_; intro w5 R5 q5)
          go_roundw
          case rel =>
            obtain ⟨r2, r3, r4, r5, r6, r7⟩ := HR.out
            exact ⟨j + 1, by go_num, by omega, L2.set j (agX z), by rw [List.length_set]; exact r7, ownG_put S8.v 8 S8.len (agX z) hj r2 r3 r4 r5 r6 r7 R5, grownG_trans HG3.out q5⟩
          case measure => simp [intOf]; omega
        · obtain rfl : j = N := by omega
          go_wp2
          go_end0
          refine ⟨rfl, L, HLL.out, HM9.out, hown3.out.kept HG3.out ?_, grownG_new hgw.out HG3.out (fun i h => by cases h; omega)⟩
          rcases ao with _ | a
          · exact .inl rfl
          · right; intro e; have := HAO.out a.block rfl; simp [Value.ownBlock] at e; omega
theorem mark5_c (v : Value) (l : List S8) (z : Int) (w : World) (B : Nat) (h : w.ownsRow B 48 8 v l.length (l.flatMap S8.v)) (hB : B ≤ w.heap.size) (hl : l.length ≤ 4194304) (hz0 : 0 ≤ z) (hz9 : z ≤ 1000) :
    Calls Tryd.prog 7 #[v, .int .i64 z] w fun e w' => Marked8 z B v l.length w w' e := by
  obtain ⟨ao, cap, rfl, hnc, hcm, hnone, hsome⟩ := ownG_form 8 h
  by_cases hfit : l.length + 1 ≤ cap
  · obtain ⟨g, rfl⟩ : ∃ g, ao = some ⟨g, 0, none⟩ := by
      rcases ao with _ | a
      · have := hnone rfl; omega
      · obtain ⟨g, rfl, _⟩ := hsome a rfl
        exact ⟨g, rfl⟩
    exact mark5_fit g cap _ l z w B h hB hl hz0 hz9 hfit
  · exact mark5_full ao cap _ l z w B h hB hl hz0 hz9 (by omega) hsome hnone rfl
end Go.Proofs.YtoikagccopglkaaDoor
