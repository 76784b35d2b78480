
-- Lists of names that are written over.
import Derived.Test.YtlobgecincppkaaDoorProg
import Derived.KernelRfl
import Derived.WalkKit
import Derived.ProofKit
import Derived.Below
import Derived.OwnWalk
import Derived.ArgAppend
import Derived.Laws.Tables
import Derived.LoopTactic
import Derived.WalkSmall
import Derived.Lib.Strings
namespace Go.Proofs.YtlobgecincppkaaDoor
open Go.RowKit
set_option linter.unusedVariables false
set_option maxRecDepth 100000
def strM (l : List ByteArray) : List Value := l.map .string
theorem strM_length (l : List ByteArray) : (strM l).length = l.length := by simp [strM]
theorem info9M : (Tryd.prog.info? 9).map (fun i => (i.zero, i.size, i.bytes)) = some (some (.string ⟨#[]⟩), 1, 16) := by kernel_rfl
theorem info_parts9 {P : Program} {e : TypeId} {z : Option Value} {s b : Nat} (h : (P.info? e).map (fun i => (i.zero, i.size, i.bytes)) = some (z, s, b)) : ∃ i, P.info? e = some i ∧ i.zero = z ∧ i.size = s ∧ i.bytes = b := by
  cases hq : P.info? e with
  | none => rw [hq] at h; cases h
  | some i =>
    rw [hq] at h
    simp only [Option.map_some, Option.some.injEq, Prod.mk.injEq] at h
    exact ⟨i, rfl, h.1, h.2.1, h.2.2⟩
theorem add_plainM (b off j : Nat) : (⟨b, off, none⟩ : Addr).add j = ⟨b, off + j, none⟩ := by
  unfold Addr.add
  split
  · simp_all
  · simp
theorem own_formM {w : World} {B : Nat} {e : TypeId} {v : Value} {n : Nat} {xs : List Value} (h : w.ownsRow B e 1 v n xs) : ∃ ao cap, v = .slice ao n cap ∧ n ≤ cap ∧ cap ≤ maxLen ∧ (ao = none → n = 0 ∧ cap = 0) ∧ (∀ a, ao = some a → ∃ g, a = ⟨g, 0, none⟩ ∧ B ≤ g ∧ g < w.heap.size) := by
  rcases h.2 with ⟨rfl, rfl⟩ | ⟨g, cap, cur, rfl, hb, hg, hnc, hcm, _⟩
  · exact ⟨none, 0, rfl, Nat.le_refl _, by decide, fun _ => ⟨rfl, rfl⟩, (fun a h => by cases h)⟩
  · exact ⟨_, cap, rfl, hnc, hcm, (fun h => by cases h), (fun a h => ⟨g, by cases h; rfl, hb, (Array.getElem?_eq_some_iff.1 hg).1⟩)⟩
theorem own_cellM {w : World} {B g cap m : Nat} {l : List ByteArray} (h : w.ownsRow B 9 1 (.slice (some ⟨g, 0, none⟩) m cap) m (strM l)) (j : Nat) (hj : j < l.length) : w.cell? ⟨g, j, none⟩ = some (.string (l.getD j .empty)) := by
  have := h.cells (g := g) rfl j (.string (l.getD j .empty)) (by simp [strM, List.getD, List.getElem?_eq_getElem hj])
  rw [add_plainM] at this
  simpa using this
theorem strM_set (l : List ByteArray) (j : Nat) (b : ByteArray) : (strM l).set j (.string b) = strM (l.set j b) := by
  simp [strM, List.map_set]
theorem own_setM {w : World} {B g cap m : Nat} {l : List ByteArray} (h : w.ownsRow B 9 1 (.slice (some ⟨g, 0, none⟩) m cap) m (strM l)) (j : Nat) (b : ByteArray) : (w.setCell ⟨g, j, none⟩ (.string b)).ownsRow B 9 1 (.slice (some ⟨g, 0, none⟩) m cap) m (strM (l.set j b)) ∧ w.grownBy (w.setCell ⟨g, j, none⟩ (.string b)) (some g) := by
  have := h.stored j (.string b)
  rwa [strM_set] at this
theorem grown_transM {a b c : World} {r : Option Nat} (h : a.grownBy b r) (k : b.grownBy c r) : a.grownBy c r :=
  ⟨k.os.trans h.os, k.tape.trans h.tape, k.output.trans h.output, Nat.le_trans h.size k.size, fun i hi hn => (k.block i (Nat.lt_of_lt_of_le hi h.size) hn).trans (h.block i hi hn)⟩
theorem grown_newM {a b c : World} {r r' : Option Nat} (h : a.grownBy b r) (k : b.grownBy c r') (hn : ∀ i, r' = some i → a.heap.size ≤ i) : a.grownBy c r :=
  ⟨k.os.trans h.os, k.tape.trans h.tape, k.output.trans h.output, Nat.le_trans h.size k.size, fun i hi hne => (k.block i (Nat.lt_of_lt_of_le hi h.size) (fun e => by have := hn i e.symm; omega)).trans (h.block i hi hne)⟩
theorem own_prefixM {w : World} {B g cap m n : Nat} {l : List ByteArray} (h : w.ownsRow B 9 1 (.slice (some ⟨g, 0, none⟩) m cap) m (strM l)) (hn : n ≤ m) : w.ownsRow B 9 1 (.slice (some ⟨g, 0, none⟩) n cap) n (strM (l.take n)) := by
  have hlm : l.length = m := by have := h.1; rw [strM_length] at this; omega
  refine ⟨by rw [strM_length, List.length_take]; omega, .inr ?_⟩
  rcases h.2 with ⟨h', _⟩ | ⟨g', cap', cur, h', hb, hg, hnc, hcm, hcs, htake⟩
  · simp at h'
  · simp only [Value.slice.injEq, Option.some.injEq, Addr.mk.injEq, and_true, true_and] at h'
    obtain ⟨rfl, rfl⟩ := h'
    refine ⟨g, cap, cur, rfl, hb, hg, by omega, hcm, hcs, ?_⟩
    have e : strM (l.take n) = (strM l).take n := by simp [strM, List.map_take]
    rw [e, ← htake, List.take_take, Nat.mul_one, Nat.mul_one, Nat.min_eq_left hn]
/-- Each of a list is the mark, or the mark and a sign behind it. -/
def Marks (s : ByteArray) (l : List ByteArray) : Prop := ∀ j, j < l.length → l.getD j .empty = s ∨ l.getD j .empty = s ++ ⟨#[33]⟩
theorem Marks.set {s : ByteArray} {l : List ByteArray} (h : Marks s l) (k : Nat) (b : ByteArray) (hb : b = s ∨ b = s ++ ⟨#[33]⟩) : Marks s (l.set k b) := by
  intro j hj
  rw [List.length_set] at hj
  by_cases e : j = k
  · subst e; simpa [List.getD, hj] using hb
  · have := h j hj
    simpa [List.getD, List.getElem?_set, Ne.symm e] using this
theorem Marks.take {s : ByteArray} {l : List ByteArray} (h : Marks s l) (n : Nat) : Marks s (l.take n) := by
  intro j hj
  rw [List.length_take] at hj
  have := h j (by omega)
  simpa [List.getD, show j < n by omega] using this
theorem Marks.snoc {s : ByteArray} {l : List ByteArray} (h : Marks s l) : Marks s (l ++ [s]) := by
  intro j hj
  rw [List.length_append, List.length_singleton] at hj
  by_cases e : j < l.length
  · have := h j e
    simpa [List.getD, List.getElem?_append, e] using this
  · have e' : j = l.length := by omega
    subst e'
    left; simp [List.getD]
theorem getD_set_neM (l : List ByteArray) (k j : Nat) (b : ByteArray) (h : j ≠ k) : (l.set k b).getD j .empty = l.getD j .empty := by
  simp [List.getD, Ne.symm h]
theorem getD_set_sameM (l : List ByteArray) (k : Nat) (b : ByteArray) (h : k < l.length) : (l.set k b).getD k .empty = b := by
  simp [List.getD, h]
def Marked (s : ByteArray) (B : Nat) (v : Value) (n : Nat) (w w' : World) (e : Ending) : Prop :=
  e = .returned (.tuple #[]) ∧ ∃ l', l'.length = n ∧ Marks s l' ∧ w'.ownsRow B 9 1 v n (strM l') ∧ w.grownBy w' v.ownBlock
set_option maxHeartbeats 2000000 in
theorem mark8_c (v : Value) (l : List ByteArray) (s : ByteArray) (w : World) (B : Nat) (h : w.ownsRow B 9 1 v l.length (strM l)) (hB : B ≤ w.heap.size) (hl : l.length ≤ 4194304) (hs : s.size ≤ 100) :
    Calls Tryd.prog 8 #[v, .string s] w fun e w' => Marked s B v l.length w w' e := by
  obtain ⟨i0, hi, hz0, hz1, hz2⟩ := info_parts9 info9M
  obtain ⟨ao, cap, rfl, hnc, hcm, hnone, hsome⟩ := own_formM h
  obtain ⟨n, hn⟩ : ∃ n, n = l.length := ⟨_, rfl⟩
  rw [← hn] at h hl hnc hnone ⊢
  have HL : Hid (l.length = n) := hn.symm
  have HS : Hid (∀ a, ao = some a → ∃ g, a = ⟨g, 0, none⟩ ∧ B ≤ g ∧ g < w.heap.size) := hsome
  have HN : Hid (ao = none → n = 0 ∧ cap = 0) := hnone
  clear hsome hnone hn
  have LOOP1 : ∀ (k : Nat) (L : List ByteArray) (wx : World), L.length = n → (∀ j, j < k → L.getD j .empty = s) → k = n → Marks s L := fun k L wx h1 h2 h3 j hj => .inl (h2 j (by omega))
  have HL1 : Hid (∀ (k : Nat) (L : List ByteArray) (wx : World), L.length = n → (∀ j, j < k → L.getD j .empty = s) → k = n → Marks s L) := LOOP1
  clear LOOP1
  by_cases hfit : n + 1 ≤ cap
  · obtain ⟨g, rfl⟩ : ∃ g, ao = some ⟨g, 0, none⟩ := by
      rcases ao with _ | a
      · have := HN.out rfl; omega
      · obtain ⟨g, rfl, _⟩ := HS.out a rfl
        exact ⟨g, rfl⟩
    go_enter Tryd.func8, Tryd.ntmps8
    go_wp2
    go_loopw [4] (fun i wx => ∃ k : Nat, i = .int .i64 k ∧ k ≤ n ∧ ∃ L, L.length = n ∧ (∀ j, j < k → L.getD j .empty = s) ∧ wx.ownsRow B 9 1 (.slice (some ⟨g, 0, none⟩) n cap) n (strM L) ∧ w.grownBy wx (some g)) (fun i _ => n - (intOf i).toNat)
    case atStart => exact ⟨0, rfl, Nat.zero_le _, l, HL.out, fun j hj => absurd hj (Nat.not_lt_zero _), h, World.grownBy.refl _ _⟩
    case round =>
      obtain ⟨k, rfl, hkn, L, hLl, hLk, hown, hgr⟩ := hrel
      have HLK : Hid (∀ j, j < k → L.getD j .empty = s) := hLk
      clear hLk
      by_cases hk : k < n
      · have b1 : decide ((k : Int) < (n : Int)) = true := by simp; omega
        have kI : (k : Int) < (n : Int) := by omega
        have ck := own_cellM hown k (by omega)
        have fk := hown.frozenAt k
        go_wp2
        go_roundw
        case rel =>
          have R := own_setM hown k s
          refine ⟨k + 1, by go_num, by omega, L.set k s, by simpa using hLl, fun j hj => ?_, R.1, grown_transM hgr R.2⟩
          by_cases e : j = k
          · subst e; exact getD_set_sameM L _ _ (by omega)
          · rw [getD_set_neM _ _ _ _ e]; exact HLK.out j (by omega)
        case measure => simp [intOf]; omega
      · obtain rfl : k = n := by omega
        have b1 : decide ((k : Int) < (k : Int)) = false := by simp
        have HM1 : Hid (Marks s L) := HL1.out k L wr hLl HLK.out rfl
        clear HLK
        go_wp2_with (at_builtin; refine wpList_append_fits _ rfl _ _ 22 rfl B 9 i0 1 Tryd.underlying22 hi hz1 g k cap (strM L) rfl (hown.alloc _) ⟨wr.heap.size, 0, none⟩ 1 1 [.string s] rfl rfl ?c1 ?c2 hfit ?_)
        case c1 =>
          intro j u hj
          match j, hj with
          | 0, hj => simp at hj; subst hj; simp [Addr.add]
        case c2 => intro u hu; simp at hu; subst hu; rfl
        intro w2 ho2 hg2
        have hgw : w.grownBy w2 (some g) := grown_transM (grown_transM hgr (World.grownBy_alloc wr _ _)) hg2
        rw [show strM L ++ [.string s] = strM (L ++ [s]) by simp [strM]] at ho2
        clear hg2 hgr hown
        obtain ⟨N, hN⟩ : ∃ N, N = k + 1 := ⟨_, rfl⟩
        rw [← hN] at ho2 ⊢
        have HN1 : Hid (N = k + 1) := hN
        have hNl : N ≤ 4194305 := by omega
        have HM2 : Hid (Marks s (L ++ [s])) := HM1.out.snoc
        have HLN : Hid ((L ++ [s]).length = N) := (by show _ = _; rw [List.length_append, List.length_singleton]; omega)
        clear hN HM1
        go_wp2
        go_loopw [6] (fun i wx => ∃ j : Nat, i = .int .i64 j ∧ j ≤ N ∧ ∃ L2, L2.length = N ∧ Marks s L2 ∧ wx.ownsRow B 9 1 (.slice (some ⟨g, 0, none⟩) N cap) N (strM L2) ∧ w2.grownBy wx (some g)) (fun i _ => N - (intOf i).toNat)
        case atStart => exact ⟨0, rfl, Nat.zero_le _, L ++ [s], HLN.out, HM2.out, ho2, World.grownBy.refl _ _⟩
        case round =>
          obtain ⟨j, rfl, hjn, L2, hL2, hM2, hown2, hgr2⟩ := hrel
          have HM3 : Hid (Marks s L2) := hM2
          clear hM2
          by_cases hj : j < N
          · have b1 : decide ((j : Int) < (N : Int)) = true := by simp; omega
            have kI : (j : Int) < (N : Int) := by omega
            have ck := own_cellM hown2 j (by omega)
            have fk := hown2.frozenAt j
            go_wp2
            go_roundw
            case rel =>
              have R := own_setM hown2 j (s ++ ⟨#[33]⟩)
              exact ⟨j + 1, by go_num, by omega, L2.set j (s ++ ⟨#[33]⟩), by simpa using hL2, HM3.out.set _ _ (.inr rfl), R.1, grown_transM hgr2 R.2⟩
            case measure => simp [intOf]; omega
          · obtain rfl : j = N := by omega
            have b1 : decide ((j : Int) < (j : Int)) = false := by simp
            go_wp2
            go_end0
            refine ⟨rfl, L2.take k, ?_, HM3.out.take k, own_prefixM hown2 (by have := HN1.out; omega), grown_transM hgw hgr2⟩
            rw [List.length_take]; have := HN1.out; omega
  · have hfull : cap < n + 1 := by omega
    have hbm : n + 1 ≤ maxLen := by unfold maxLen; omega
    have hbb : (n + 1) * 16 ≤ 140737488355328 := by omega
    go_enter Tryd.func8, Tryd.ntmps8
    go_wp2
    go_loopw [4] (fun i wx => ∃ k : Nat, i = .int .i64 k ∧ k ≤ n ∧ ∃ L, L.length = n ∧ (∀ j, j < k → L.getD j .empty = s) ∧ wx.ownsRow B 9 1 (.slice ao n cap) n (strM L) ∧ w.grownBy wx (Value.slice ao n cap).ownBlock) (fun i _ => n - (intOf i).toNat)
    case atStart => exact ⟨0, rfl, Nat.zero_le _, l, HL.out, fun j hj => absurd hj (Nat.not_lt_zero _), h, World.grownBy.refl _ _⟩
    case round =>
      obtain ⟨k, rfl, hkn, L, hLl, hLk, hown, hgr⟩ := hrel
      have HLK : Hid (∀ j, j < k → L.getD j .empty = s) := hLk
      clear hLk
      by_cases hk : k < n
      · obtain ⟨g, rfl⟩ : ∃ g, ao = some ⟨g, 0, none⟩ := by
          rcases ao with _ | a
          · have := HN.out rfl; omega
          · obtain ⟨g, rfl, _⟩ := HS.out a rfl
            exact ⟨g, rfl⟩
        have b1 : decide ((k : Int) < (n : Int)) = true := by simp; omega
        have kI : (k : Int) < (n : Int) := by omega
        have ck := own_cellM hown k (by omega)
        have fk := hown.frozenAt k
        go_wp2
        go_roundw
        case rel =>
          have R := own_setM hown k s
          refine ⟨k + 1, by go_num, by omega, L.set k s, by simpa using hLl, fun j hj => ?_, R.1, grown_transM hgr R.2⟩
          by_cases e : j = k
          · subst e; exact getD_set_sameM L _ _ (by omega)
          · rw [getD_set_neM _ _ _ _ e]; exact HLK.out j (by omega)
        case measure => simp [intOf]; omega
      · obtain rfl : k = n := by omega
        have b1 : decide ((k : Int) < (k : Int)) = false := by simp
        have HM1 : Hid (Marks s L) := HL1.out k L wr hLl HLK.out rfl
        clear HLK
        go_wp2_with (at_builtin; refine wpList_append_grows _ rfl _ _ 22 rfl 9 i0 (.string ⟨#[]⟩) 1 16 Tryd.underlying22 hi hz0 hz1 hz2 rfl (by decide) ao k cap (strM L) rfl HN.out ?c0 ?c3 ⟨wr.heap.size, 0, none⟩ 1 1 [.string s] rfl rfl ?c1 ?c2 hfull hbm hbb ?_)
        case c0 => rw [strM_length]; omega
        case c3 =>
          intro b hb j u hj
          exact (hown.alloc _).cells (g := b.block) (by rw [hb]; rfl) j u hj |> fun t => by
            obtain ⟨g, rfl, _⟩ := HS.out b hb
            exact t
        case c1 =>
          intro j u hj
          match j, hj with
          | 0, hj => simp at hj; subst hj; simp [Addr.add]
        case c2 => intro u hu; simp at hu; subst hu; rfl
        intro v2 w2 ho2 hg2
        have hgw : w.grownBy w2 (Value.slice ao k cap).ownBlock := grown_newM (grown_transM hgr (World.grownBy_alloc wr _ _)) hg2 (fun i h => by cases h)
        have hown3 : w2.ownsRow B 9 1 (.slice ao k cap) k (strM L) := (hown.alloc _).kept hg2 (by rcases ao with _ | a; exact .inl rfl; exact .inr (by simp [Value.ownBlock]))
        rw [show strM L ++ [.string s] = strM (L ++ [s]) by simp [strM]] at ho2
        obtain ⟨ao2, cap2, rfl, hnc2, _, hnone2, hsome2⟩ := own_formM ho2
        obtain ⟨g2, rfl, hg2b, hg2w⟩ : ∃ g2, ao2 = some ⟨g2, 0, none⟩ ∧ wr.heap.size + 1 ≤ g2 ∧ g2 < w2.heap.size := by
          rcases ao2 with _ | a
          · have := hnone2 rfl; omega
          · obtain ⟨g2, rfl, h1, h2⟩ := hsome2 a rfl
            exact ⟨g2, rfl, by simpa using h1, h2⟩
        have hwr := hgr.size
        have HAO : Hid (∀ i, (Value.slice ao k cap).ownBlock = some i → i < g2) := fun i hi => by have := (hown.lt i hi).2; omega
        have HM9 : Hid (Marks s L) := HM1.out
        clear hg2 hgr hown hnone2 hsome2
        obtain ⟨wr0, hwr0⟩ : ∃ wr0, wr0 = wr.heap.size := ⟨_, rfl⟩
        have ho2 : w2.ownsRow (wr0 + 1) 9 1 (.slice (some ⟨g2, 0, none⟩) (k + 1) cap2) (k + 1) (strM (L ++ [s])) := by rw [hwr0]; exact ho2
        obtain ⟨N, hN⟩ : ∃ N, N = k + 1 := ⟨_, rfl⟩
        rw [← hN] at ho2 ⊢
        have HN1 : Hid (N = k + 1) := hN
        have hNl : N ≤ 4194305 := by omega
        have HM2 : Hid (Marks s (L ++ [s])) := HM1.out.snoc
        have HLN : Hid ((L ++ [s]).length = N) := (by show _ = _; rw [List.length_append, List.length_singleton]; omega)
        clear hN HM1
        go_wp2
        go_loopw [6] (fun i wx => ∃ j : Nat, i = .int .i64 j ∧ j ≤ N ∧ ∃ L2, L2.length = N ∧ Marks s L2 ∧ wx.ownsRow (wr0 + 1) 9 1 (.slice (some ⟨g2, 0, none⟩) N cap2) N (strM L2) ∧ w2.grownBy wx (some g2)) (fun i _ => N - (intOf i).toNat)
        case atStart => exact ⟨0, rfl, Nat.zero_le _, L ++ [s], HLN.out, HM2.out, ho2, World.grownBy.refl _ _⟩
        case round =>
          obtain ⟨j, rfl, hjn, L2, hL2, hM2, hown2, hgr2⟩ := hrel
          have HM3 : Hid (Marks s L2) := hM2
          clear hM2
          by_cases hj : j < N
          · have b1 : decide ((j : Int) < (N : Int)) = true := by simp; omega
            have kI : (j : Int) < (N : Int) := by omega
            have ck := own_cellM hown2 j (by omega)
            have fk := hown2.frozenAt j
            go_wp2
            go_roundw
            case rel =>
              have R := own_setM hown2 j (s ++ ⟨#[33]⟩)
              exact ⟨j + 1, by go_num, by omega, L2.set j (s ++ ⟨#[33]⟩), by simpa using hL2, HM3.out.set _ _ (.inr rfl), R.1, grown_transM hgr2 R.2⟩
            case measure => simp [intOf]; omega
          · obtain rfl : j = N := by omega
            have b1 : decide ((j : Int) < (j : Int)) = false := by simp
            go_wp2
            go_end0
            refine ⟨rfl, L, hLl, HM9.out, hown3.kept hgr2 ?_, grown_newM hgw hgr2 (fun i h => by cases h; omega)⟩
            rcases ao with _ | a
            · exact .inl rfl
            · right; intro e; have := HAO.out a.block rfl; simp [Value.ownBlock] at e; omega
end Go.Proofs.YtlobgecincppkaaDoor
