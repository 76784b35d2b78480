
-- index: isGood, measure, lengths, what fits: contracts.
import Derived.Test.YtegjklllnegghaaGreatDoorC2
import Derived.Test.YtegjklllnegghaaGreatDoorI1
import Derived.Test.YtegjklllnegghaaGreatDoorShelf
import Derived.Test.YtegjklllnegghaaGreatDoorRow
import Derived.Lib.IndexBytes
namespace Go.Proofs.YtegjklllnegghaaGreatDoor
open Go.ChangeShapes Go.WideShapes Go.ChangeAt Go.RowKit
set_option linter.unusedVariables false
set_option maxRecDepth 100000
theorem indexByte_neg (l : List UInt8) (c : UInt8) : Lib.indexByte l c < 0 ↔ ¬ c ∈ l := by
  induction l with
  | nil => simp [Lib.indexByte]
  | cons a r ih =>
    have hg := Lib.indexByte_ge r c
    unfold Lib.indexByte
    by_cases e : a = c
    · subst e; simp
    · have e' : ¬ c = a := fun h => e h.symm
      have eb : (a == c) = false := by simpa using e
      rw [eb, List.mem_cons]
      simp only [Bool.false_eq_true, if_false, e', false_or]
      by_cases h1 : (Lib.indexByte r c == -1) = true
      · rw [if_pos h1]
        have : Lib.indexByte r c = -1 := by simpa using h1
        rw [← ih]; omega
      · rw [if_neg h1]
        have : ¬ Lib.indexByte r c = -1 := by simpa using h1
        rw [← ih]; omega
theorem isGood_c (s : ByteArray) (w : World) :
    Calls Tryz.prog 32 #[.string s] w fun e w' => e = .returned (.bool (goodL s.data.toList)) ∧ w' = w := by
  have H : Hid (∀ (c : Int) w, Calls Tryz.prog 50 #[.string s, .int .u8 c] w fun e w' => e = .returned (.int .i64 (Lib.indexByte s.data.toList (UInt8.ofNat c.toNat))) ∧ w' = w) := fun c w => Tryz.strings_IndexByte s c w
  by_cases h0 : s.data.toList = []
  · have e0 : s = ByteArray.empty := by rw [← strL_of s, h0]; rfl
    subst e0
    go_enter Tryz.func32, Tryz.ntmps32
    go_wp2
    go_ret
    exact ⟨rfl, rfl⟩
  · have hn : (s.toList == []) = false := by rw [Lib.toList_data]; simpa using h0
    have hn2 : (!(s.toList == [])) = true := by rw [hn]; rfl
    have i0 := indexByte_neg s.data.toList 0
    have hq : goodL s.data.toList = decide (Lib.indexByte s.data.toList 0 < 0) := by
      rw [Bool.eq_iff_iff, goodL_iff, decide_eq_true_eq, i0]; simp [h0]
    rw [hq]
    clear i0 hq h0
    go_enter Tryz.func32, Tryz.ntmps32
    go_wp2_with (go_at_call 50; refine (H.out _ _).mono ?_; rintro e w' ⟨rfl, rfl⟩)
    go_ret
    exact ⟨rfl, rfl⟩
theorem i64_and1 (n : Int) : bits .and .i64 n 1 = n % 2 := by
  have h1 : (BitVec.ofInt 64 1).toNat = 2 ^ 1 - 1 := by decide
  have key : (BitVec.ofInt 64 n &&& BitVec.ofInt 64 1).toNat = (n % ((2 ^ 64 : Nat) : Int)).toNat % 2 ^ 1 := by
    rw [BitVec.toNat_and, BitVec.toNat_ofInt, h1, Nat.and_two_pow_sub_one_eq_mod]
  show IntKind.i64.wrap ((BitVec.ofInt 64 n &&& BitVec.ofInt 64 1).toNat : Nat) = n % 2
  rw [key, IntKind.wrap_i64]
  omega
theorem even_c (n : Nat) (w : World) (h : n < 9223372036854775807) : Calls Tryz.prog 33 #[.int .i64 n] w fun e w' => e = .returned (.int .i64 (evenN n : Nat)) ∧ w' = w := by
  have e0 : ((n : Int) == 9223372036854775807) = false := by simp; omega
  have hb : bits .and .i64 (n : Int) 1 = ((n % 2 : Nat) : Int) := by rw [i64_and1]; omega
  have HE : Hid (evenN n = n + n % 2) := rfl
  go_enter Tryz.func33, Tryz.ntmps33
  go_wp2
  go_ret
  exact ⟨by rw [HE.out]; simp, rfl⟩
/-- what measure says of names -/
def measA (L : List ByteArray) : Nat × Nat × Int := if goodAll L = true then (L.length, evenN (totN L), 0) else (0, 0, 80)
def goodUp (L : List ByteArray) (k : Nat) : Prop := ∀ j, j < k → goodL (L.getD j .empty).data.toList = true
theorem goodUp_next {L : List ByteArray} {k : Nat} (h : goodUp L k) (hk : goodL (L.getD k .empty).data.toList = true) : goodUp L (k + 1) := fun j hj => by
  by_cases e : j = k
  · rw [e]; exact hk
  · exact h j (by omega)
theorem measA_ok {L : List ByteArray} (h : goodUp L L.length) : measA L = (L.length, evenN (totN L), 0) := by unfold measA; rw [if_pos (goodAll_yes L h)]
theorem measA_no {L : List ByteArray} {k : Nat} (h : k < L.length) (hg : goodL (L.getD k .empty).data.toList = false) : measA L = (0, 0, 80) := by unfold measA; rw [goodAll_no L k h hg]; rfl
set_option maxHeartbeats 2000000 in
theorem measure_c (v : Value) (L : List ByteArray) (w : World) (hv : RowS w v L) (ht : totN L < 4611686018427387904) :
    Calls Tryz.prog 21 #[v] w fun e w' => e = .returned (.tuple #[.agg #[.int .i64 (measA L).1, .int .i64 (measA L).2.1], .int .i64 (measA L).2.2]) ∧ Below w.heap.size w w' := by
  have HG : Hid (∀ (s : ByteArray) (w : World), Calls Tryz.prog 32 #[.string s] w fun e w' => e = .returned (.bool (goodL s.data.toList)) ∧ w' = w) := isGood_c
  have HE : Hid (∀ w, Calls Tryz.prog 33 #[.int .i64 (totN L : Nat)] w fun e w' => e = .returned (.int .i64 (evenN (totN L) : Nat)) ∧ w' = w) := fun w => even_c _ w (by omega)
  have hlen := totN_len L
  have Z0 := heap_alloc_new w (.cells #[.int .i64 0, .int .i64 0] 58)
  have hrow : ∃ ao cap, v = .slice ao L.length cap ∧ (∀ j, j < L.length → ∃ b off, ao = some ⟨b, off, none⟩ ∧ w.cell? ⟨b, off + j, none⟩ = some (.string (L.getD j .empty))) := by
    rcases hv with ⟨rfl, ao, c, rfl⟩ | ⟨b, off, cap, rfl, h⟩
    · exact ⟨ao, c, rfl, fun j hj => absurd hj (Nat.not_lt_zero _)⟩
    · exact ⟨_, cap, rfl, fun j hj => ⟨b, off, rfl, h j hj⟩⟩
  obtain ⟨ao, cap, rfl, hcell⟩ := hrow
  have HC : Hid _ := hcell
  clear hv hcell
  go_enter Tryz.func21, Tryz.ntmps21
  go_wp2
  go_loop [4, 9] (fun t i => ∃ k : Nat, k ≤ L.length ∧ i = .int .i64 k ∧ t = .int .i64 (totN (L.take k) : Nat) ∧ goodUp L k) (fun _ i => L.length - (intOf i).toNat)
  case atStart => exact ⟨0, Nat.zero_le _, rfl, rfl, fun j hj => absurd hj (Nat.not_lt_zero _)⟩
  case round =>
    obtain ⟨k, hk, rfl, rfl, hg⟩ := hrel
    have HU : Hid (goodUp L k) := hg
    clear hg
    by_cases hlt : k < L.length
    · obtain ⟨b, off, rfl, hc⟩ := HC.out k hlt
      have hbl := World.block_lt_of_cell? _ _ hc
      have hc2 : (w.alloc (.cells #[.int .i64 0, .int .i64 0] 58)).cell? ⟨b, off + k, none⟩ = some (.string (L.getD k .empty)) := (World.cell?_alloc_lt _ _ _ hbl).trans hc
      have HN : Hid (totN (L.take (k + 1)) = totN (L.take k) + (L.getD k .empty).size + 1) := totN_take_next L k hlt
      have hle : totN (L.take k) + (L.getD k .empty).size + 1 ≤ totN L := by rw [← HN.out]; exact totN_take_le L _
      clear hc
      cases hg : goodL (L.getD k .empty).data.toList
      · have HM : Hid (measA L = (0, 0, 80)) := measA_no hlt hg
        generalize L.getD k .empty = s at *
        have HG' : Hid (∀ w : World, Calls Tryz.prog 32 #[.string s] w fun e w' => e = .returned (.bool false) ∧ w' = w) := fun w => by have := HG.out s w; rwa [hg] at this
        clear HG hg
        go_wp2_with (first
          | (go_at_call 32; refine (HG'.out _).mono ?_; rintro e w1 ⟨rfl, hw1⟩; subst w1)
          | (refine wpList_store_kz rfl rfl _ _ _ rfl w.heap.size 0 (.agg #[.int .i64 0, .int .i64 0]) rfl rfl _ _ #[.int .i64 0, .int .i64 0] Z0 (by kernel_rfl) rfl rfl rfl ?_; intro W3 R3 q3))
        refine bodyPost_ret (results_cell_tmp_rowC rfl _ _ w.heap.size _ _ _ _ _ rfl rfl R3 Tryz.underlying58 rfl (by kernel_rfl)) rfl ?_
        exact ⟨by rw [HM.out]; rfl, q3.belowN (bupK (Below.refl _ _) _) (Nat.le_refl _) (Nat.le_refl _)⟩
      · have HV : Hid (goodUp L (k + 1)) := goodUp_next HU.out hg
        generalize L.getD k .empty = s at *
        have HG' : Hid (∀ w : World, Calls Tryz.prog 32 #[.string s] w fun e w' => e = .returned (.bool true) ∧ w' = w) := fun w => by have := HG.out s w; rwa [hg] at this
        clear HG hg
        go_wp2_with (first
          | (go_at_call 32; refine (HG'.out _).mono ?_; rintro e w1 ⟨rfl, hw1⟩; subst w1))
        go_round
        case rel => exact ⟨k + 1, by omega, by go_num, by rw [HN.out]; go_num, HV.out⟩
        case measure => simp [intOf]; omega
    · obtain rfl : k = L.length := by omega
      have HM : Hid (measA L = (L.length, evenN (totN L), 0)) := measA_ok HU.out
      have HT : Hid (L.take L.length = L) := List.take_length
      rw [HT.out]
      generalize evenN (totN L) = ev at *
      go_wp2_with (first
          | (go_at_call 33; refine (HE.out _).mono ?_; rintro e w1 ⟨rfl, hw1⟩; subst w1)
          | (refine wpList_store_kz rfl rfl _ _ _ rfl w.heap.size 0 (.agg #[.int .i64 L.length, .int .i64 (ev : Nat)]) rfl rfl _ _ #[.int .i64 L.length, .int .i64 (ev : Nat)] Z0 (by kernel_rfl) rfl rfl rfl ?_; intro W3 R3 q3))
      refine bodyPost_ret (results_cell_tmp_rowC rfl _ _ w.heap.size _ _ _ _ _ rfl rfl R3 Tryz.underlying58 rfl (by kernel_rfl)) rfl ?_
      exact ⟨by rw [HM.out]; rfl, q3.belowN (bupK (Below.refl _ _) _) (Nat.le_refl _) (Nat.le_refl _)⟩
end Go.Proofs.YtegjklllnegghaaGreatDoor
