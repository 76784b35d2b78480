
-- Lists of names that grow, and are looked at.
import Derived.Test.YtlobgecincppkaaDoorMS1
namespace Go.Proofs.YtlobgecincppkaaDoor
open Go.RowKit
set_option linter.unusedVariables false
set_option maxRecDepth 100000
theorem beqM (x y : ByteArray) : (x.toList == y.toList) = decide (x = y) := by
  rw [Bool.eq_iff_iff, beq_iff_eq, decide_eq_true_eq, Lib.toList_data, Lib.toList_data]
  constructor
  · intro h; apply ByteArray.ext; exact Array.ext' h
  · intro h; rw [h]
theorem own_weakenM {w : World} {B B' : Nat} {e : TypeId} {size : Nat} {v : Value} {n : Nat} {xs : List Value} (h : w.ownsRow B e size v n xs) (hB : B' ≤ B) : w.ownsRow B' e size v n xs := by
  refine ⟨h.1, ?_⟩
  rcases h.2 with h2 | ⟨g, cap, cur, hv, hg, r⟩
  · exact .inl h2
  · exact .inr ⟨g, cap, cur, hv, by omega, r⟩
/-- What grown leaves: the list in the same row or in a new one. -/
def GrownTo (s : ByteArray) (B : Nat) (v : Value) (n : Nat) (w w' : World) (e : Ending) : Prop :=
  ∃ v' l', e = .returned v' ∧ l'.length = n ∧ Marks s l' ∧ w'.ownsRow B 9 1 v' n (strM l') ∧ w.grownBy w' v.ownBlock ∧ ∀ i, v'.ownBlock = some i → v.ownBlock = some i ∨ w.heap.size ≤ i
set_option maxHeartbeats 2000000 in
theorem grown8_c (v : Value) (l : List ByteArray) (s : ByteArray) (w : World) (B : Nat) (h : w.ownsRow B 9 1 v l.length (strM l)) (hm : Marks s l) (hB : B ≤ w.heap.size) (hl : l.length ≤ 4194304) (hs : s.size ≤ 100) :
    Calls Tryd.prog 10 #[v, .string s] w fun e w' => GrownTo s B v (l.length + 64) w w' e := by
  obtain ⟨i0, hi, hz0, hz1, hz2⟩ := info_parts9 info9M
  obtain ⟨n, hn⟩ : ∃ n, n = l.length := ⟨_, rfl⟩
  rw [← hn] at h hl ⊢
  have HM : Hid (Marks s l ∧ l.length = n) := ⟨hm, hn.symm⟩
  clear hm hn
  go_enter Tryd.func10, Tryd.ntmps10
  go_wp2
  go_loopw [0, 5] (fun vx i wx => ∃ (k : Nat) (L : List ByteArray), i = .int .i64 k ∧ k ≤ 64 ∧ L.length = n + k ∧ Marks s L ∧ wx.ownsRow B 9 1 vx (n + k) (strM L) ∧ w.grownBy wx v.ownBlock ∧ ∀ i, vx.ownBlock = some i → v.ownBlock = some i ∨ w.heap.size ≤ i) (fun _ i _ => 64 - (intOf i).toNat)
  case atStart => exact ⟨0, l, rfl, Nat.zero_le _, HM.out.2, HM.out.1, h, World.grownBy.refl _ _, fun i hi => .inl hi⟩
  case round =>
    obtain ⟨k, L, rfl, hk64, hLl, hML, hown, hgr, hblk⟩ := hrel
    have HMK : Hid (Marks s L) := hML
    have HBK : Hid (∀ i, u0.ownBlock = some i → v.ownBlock = some i ∨ w.heap.size ≤ i) := hblk
    clear hML hblk
    have hws := hgr.size
    by_cases hk : k < 64
    · have b1 : decide ((k : Int) < 64) = true := by simp; omega
      obtain ⟨ao, cap, hu0, hnc, hcm, hnone, hsome⟩ := own_formM hown
      subst hu0
      have HS : Hid (∀ a, ao = some a → ∃ g, a = ⟨g, 0, none⟩ ∧ B ≤ g ∧ g < wr.heap.size) := hsome
      have HN : Hid (ao = none → n + k = 0 ∧ cap = 0) := hnone
      clear hsome hnone
      by_cases hfit : (n + k) + 1 ≤ cap
      · obtain ⟨g, rfl⟩ : ∃ g, ao = some ⟨g, 0, none⟩ := by
          rcases ao with _ | a
          · have := HN.out rfl; omega
          · obtain ⟨g, rfl, _⟩ := HS.out a rfl
            exact ⟨g, rfl⟩
        go_wp2_with (at_builtin; refine wpList_append_fits _ rfl _ _ 22 rfl B 9 i0 1 Tryd.underlying22 hi hz1 g (n + k) cap (strM L) rfl (hown.alloc _) ⟨wr.heap.size, 0, none⟩ 1 1 [.string s] rfl rfl ?c1 ?c2 hfit ?_)
        case c1 =>
          intro j u hj
          match j, hj with
          | 0, hj => simp at hj; subst hj; simp [Addr.add]
        case c2 => intro u hu; simp at hu; subst hu; rfl
        intro w2 ho2 hg2
        have hgw : w.grownBy w2 v.ownBlock := by
          refine ⟨hg2.os.trans hgr.os, hg2.tape.trans hgr.tape, hg2.output.trans hgr.output, by have := hg2.size; simp at this; omega, fun i hi hne => ?_⟩
          have h1 := hg2.block i (by simp; omega) (fun e => by
            rcases HBK.out i (by simpa [Value.ownBlock] using e.symm) with h | h
            · exact hne h.symm
            · omega)
          rw [h1]
          exact (heap_alloc_old wr _ (by omega)).trans (hgr.block i hi hne)
        rw [show strM L ++ [.string s] = strM (L ++ [s]) by simp [strM]] at ho2
        clear hg2 hgr hown
        go_wp2
        go_roundw
        case rel => exact ⟨k + 1, L ++ [s], by go_num, by omega, by simp; omega, HMK.out.snoc, ho2, hgw, fun i hi => HBK.out i hi⟩
        case measure => simp [intOf]; omega
      · have hfull : cap < (n + k) + 1 := by omega
        have hbm : (n + k) + 1 ≤ maxLen := by unfold maxLen; omega
        have hbb : ((n + k) + 1) * 16 ≤ 140737488355328 := by omega
        go_wp2_with (at_builtin; refine wpList_append_grows _ rfl _ _ 22 rfl 9 i0 (.string ⟨#[]⟩) 1 16 Tryd.underlying22 hi hz0 hz1 hz2 rfl (by decide) ao (n + k) cap (strM L) rfl HN.out ?c0 ?c3 ⟨wr.heap.size, 0, none⟩ 1 1 [.string s] rfl rfl ?c1 ?c2 hfull hbm hbb ?_)
        case c0 => rw [strM_length]; omega
        case c3 =>
          intro b hb j u hj
          exact (hown.alloc _).cells (g := b.block) (by rw [hb]; rfl) j u hj |> fun t => by
            obtain ⟨g, rfl, _⟩ := HS.out b hb
            exact t
        case c1 =>
          intro j u hj
          match j, hj with
          | 0, hj => simp at hj; subst hj; simp [Addr.add]
        case c2 => intro u hu; simp at hu; subst hu; rfl
        intro v2 w2 ho2 hg2
        have hgw : w.grownBy w2 v.ownBlock := grown_newM (grown_transM hgr (World.grownBy_alloc wr _ _)) hg2 (fun i h => by cases h)
        rw [show strM L ++ [.string s] = strM (L ++ [s]) by simp [strM]] at ho2
        have HV2 : Hid (∀ i, v2.ownBlock = some i → w.heap.size ≤ i) := fun i hi => by have := (ho2.lt i hi).1; omega
        have ho2' : w2.ownsRow B 9 1 v2 (n + k + 1) (strM (L ++ [s])) := own_weakenM ho2 (by omega)
        clear hg2 hgr hown ho2
        go_wp2
        go_roundw
        case rel => exact ⟨k + 1, L ++ [s], by go_num, by omega, by simp; omega, HMK.out.snoc, ho2', hgw, fun i hi => .inr (HV2.out i hi)⟩
        case measure => simp [intOf]; omega
    · obtain rfl : k = 64 := by omega
      go_wp2
      go_ret
      exact ⟨_, L, rfl, hLl, HMK.out, hown, hgr, HBK.out⟩
set_option maxHeartbeats 2000000 in
theorem marked8_c (v : Value) (l : List ByteArray) (s : ByteArray) (w : World) (B : Nat) (h : w.ownsRow B 9 1 v l.length (strM l)) (hm : Marks s l) (hl : l.length ≤ 4194500) (h64 : 64 ≤ l.length) (hs : s.size ≤ 100) :
    Calls Tryd.prog 11 #[v, .string s] w fun e w' => e = .returned (.bool true) ∧ w' = w := by
  obtain ⟨ao, cap, rfl, hnc, hcm, hnone, hsome⟩ := own_formM h
  obtain ⟨n, hn⟩ : ∃ n, n = l.length := ⟨_, rfl⟩
  rw [← hn] at h hl hnc hnone h64 ⊢
  have HL : Hid (l.length = n) := hn.symm
  have HS : Hid (∀ a, ao = some a → ∃ g, a = ⟨g, 0, none⟩ ∧ B ≤ g ∧ g < w.heap.size) := hsome
  have HN : Hid (ao = none → n = 0 ∧ cap = 0) := hnone
  have HM : Hid (Marks s l) := hm
  clear hsome hnone hn hm
  go_enter Tryd.func11, Tryd.ntmps11
  go_wp2
  go_loopw [5] (fun i wx => ∃ k : Nat, i = .int .i64 k ∧ k ≤ n ∧ wx = w) (fun i _ => n - (intOf i).toNat)
  case atStart => exact ⟨0, rfl, Nat.zero_le _, rfl⟩
  case round =>
    obtain ⟨k, rfl, hkn, hwr⟩ := hrel
    subst hwr
    by_cases hk : k < n
    · obtain ⟨g, rfl⟩ : ∃ g, ao = some ⟨g, 0, none⟩ := by
        rcases ao with _ | a
        · have := HN.out rfl; omega
        · obtain ⟨g, rfl, _⟩ := HS.out a rfl
          exact ⟨g, rfl⟩
      have b1 : decide ((k : Int) < (n : Int)) = true := by simp; omega
      have kI : (k : Int) < (n : Int) := by omega
      have ck := own_cellM h k (by rw [HL.out]; exact hk)
      obtain ⟨x, hx⟩ : ∃ x, x = l.getD k .empty := ⟨_, rfl⟩
      have hmk := HM.out k (by rw [HL.out]; exact hk)
      rw [← hx] at ck hmk
      clear hx
      rcases hmk with hx | hx
      · have hbe : (x.toList == s.toList) = true := by rw [beqM]; simp [hx]
        have HEQ : Hid (x = s) := hx
        clear hx
        go_wp2
        go_roundw
        case rel => exact ⟨k + 1, by go_num, by omega, by first | rfl | trivial⟩
        case measure => simp [intOf]; omega
      · have hbe : (x.toList == s.toList) = false := by
          rw [beqM, decide_eq_false]; intro e; rw [e] at hx
          have := congrArg ByteArray.size hx
          rw [ByteArray.size_append, show (⟨#[33]⟩ : ByteArray).size = 1 from rfl] at this
          omega
        have hbe2 : (x.toList == (s ++ ⟨#[33]⟩ : ByteArray).toList) = true := by rw [beqM]; simp [hx]
        have HEQ : Hid (x = s ++ ⟨#[33]⟩) := hx
        clear hx
        go_wp2
        go_roundw
        case rel => exact ⟨k + 1, by go_num, by omega, by first | rfl | trivial⟩
        case measure => simp [intOf]; omega
    · obtain rfl : k = n := by omega
      have b1 : decide ((k : Int) < (k : Int)) = false := by simp
      have b64 : (64 : Int) ≤ (k : Int) := by omega
      have b65 : decide ((64 : Int) ≤ (k : Int)) = true := by simp; omega
      go_wp2
      go_ret
      exact ⟨rfl, rfl⟩
end Go.Proofs.YtlobgecincppkaaDoor
