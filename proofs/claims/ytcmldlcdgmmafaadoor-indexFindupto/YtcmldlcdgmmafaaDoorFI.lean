
-- index.Find: the search, contracts.
import Derived.Test.YtcmldlcdgmmafaaDoorCC
namespace Go.Proofs.YtcmldlcdgmmafaaDoor
open Go.ChangeShapes Go.WideShapes Go.ChangeAt Go.RowKit
set_option linter.unusedVariables false
set_option maxRecDepth 100000
/-- the first entry of this name -/
def fstN (L : List En) (nm : ByteArray) : Option Nat := (List.range L.length).find? (fun j => decide (L[j]?.map En.name = some nm))
def fstI (L : List En) (nm : ByteArray) : Int := match fstN L nm with | some j => (j : Int) | none => -1
theorem fstN_at {L : List En} {nm : ByteArray} {k : Nat} {x : En} (hx : L[k]? = some x) (h : x.name = nm) (hb : ∀ j y, j < k → L[j]? = some y → y.name ≠ nm) : fstN L nm = some k := by
  have hl := (List.getElem?_eq_some_iff.1 hx).1
  unfold fstN
  rw [List.find?_range_eq_some]
  refine ⟨by simp [hx, h], by simpa using hl, fun j hj => ?_⟩
  have hjl : j < L.length := by omega
  have := hb j _ hj (List.getElem?_eq_getElem hjl)
  simp [List.getElem?_eq_getElem hjl, this]
theorem fstN_no {L : List En} {nm : ByteArray} (hb : ∀ j y, j < L.length → L[j]? = some y → y.name ≠ nm) : fstN L nm = none := by
  unfold fstN
  rw [List.find?_range_eq_none]
  intro j hj
  have := hb j _ hj (List.getElem?_eq_getElem hj)
  simp [List.getElem?_eq_getElem hj, this]
theorem fstI_at {L : List En} {nm : ByteArray} {k : Nat} (h : fstN L nm = some k) : fstI L nm = (k : Int) := by unfold fstI; rw [h]
theorem fstI_no {L : List En} {nm : ByteArray} (h : fstN L nm = none) : fstI L nm = -1 := by unfold fstI; rw [h]
theorem cell_onF {w w' : World} {B : Nat} {v : Value} (h : w.cell? ⟨B, 0, none⟩ = some v) (hb : Below w.heap.size w w') : w'.cell? ⟨B, 0, none⟩ = some v := (hb.cell (p := ⟨B, 0, none⟩) (World.block_lt_of_cell? _ _ h)).trans h
theorem strNe {x y : ByteArray} (h : x ≠ y) : (x.toList == y.toList) = false := by
  rw [Lib.toList_data, Lib.toList_data]
  refine beq_eq_false_iff_ne.2 fun q => h ?_
  rw [← strL_of x, ← strL_of y, q]
theorem find1_y (nm : ByteArray) (p : Int) (B : Nat) (w : World) (hc : w.cell? ⟨B, 0, none⟩ = some (.string nm)) :
    Calls Tryd.prog 26 #[.agg #[.string nm, .int .i64 p], .pointer (some ⟨B, 0, none⟩)] w fun e w' => e = .returned (.bool true) ∧ Below w.heap.size w w' := by
  have c1 := cell_onF hc (bupK (Below.refl w.heap.size w) (.cells #[.string nm, .int .i64 p] 64))
  go_enter Tryd.func26, Tryd.ntmps26
  go_wp2
  go_ret
  exact ⟨rfl, bupK (Below.refl _ _) _⟩
theorem find1_n (x nm : ByteArray) (p : Int) (B : Nat) (w : World) (hc : w.cell? ⟨B, 0, none⟩ = some (.string nm)) (hx : x ≠ nm) :
    Calls Tryd.prog 26 #[.agg #[.string x, .int .i64 p], .pointer (some ⟨B, 0, none⟩)] w fun e w' => e = .returned (.bool false) ∧ Below w.heap.size w w' := by
  have c1 := cell_onF hc (bupK (Below.refl w.heap.size w) (.cells #[.string x, .int .i64 p] 64))
  have h1 := strNe hx
  go_enter Tryd.func26, Tryd.ntmps26
  go_wp2
  go_ret
  exact ⟨rfl, bupK (Below.refl _ _) _⟩
/-- what the search wants of a round -/
theorem RowE.at {w : World} {v : Value} {L : List En} {k : Nat} {x : En} (h : RowE w v L) (hx : L[k]? = some x) : ∃ b off cap, v = .slice (some ⟨b, off, none⟩) L.length cap ∧ w.cell? ⟨b, off + k * 2, none⟩ = some (.string x.name) ∧ w.cell? ⟨b, off + k * 2 + 1, none⟩ = some (.int .i64 x.pl) := by
  rcases h with ⟨rfl, _⟩ | ⟨b, off, cap, rfl, hc⟩
  · simp at hx
  · obtain ⟨c1, c2⟩ := hc k x hx
    exact ⟨b, off, cap, rfl, by rw [Nat.mul_comm]; exact c1, by rw [Nat.mul_comm]; exact c2⟩
set_option maxHeartbeats 4000000 in
theorem idxF_c (v : Value) (L : List En) (nm : ByteArray) (B : Nat) (w : World) (hv : RowE w v L) (hc : w.cell? ⟨B, 0, none⟩ = some (.string nm)) (hn : L.length < 4294967296) :
    Calls Tryd.prog 25 #[v, .func (.func 26) #[] #[.pointer (some ⟨B, 0, none⟩)]] w fun e w' => e = .returned (.int .i64 (fstI L nm)) ∧ Below w.heap.size w w' := by
  obtain ⟨a1, c1, q1⟩ := hv.form
  obtain ⟨n, hnn⟩ : ∃ n, n = L.length := ⟨_, rfl⟩
  have HN := hidK hnn
  have HV := hidK hv
  have HC := hidK hc
  subst q1
  rw [← hnn] at hn ⊢ HV
  clear hv hc hnn
  go_enter Tryd.func25, Tryd.ntmps25
  go_wp2
  go_loopw [8] (fun i wx => ∃ k : Nat, i = .int .i64 k ∧ k ≤ n ∧ (∀ j y, j < k → L[j]? = some y → y.name ≠ nm) ∧ Below w.heap.size w wx) (fun i _ => n - (intOf i).toNat)
  case atStart => exact ⟨0, rfl, Nat.zero_le _, fun j y h => absurd h (Nat.not_lt_zero _), Below.refl _ _⟩
  case round =>
    obtain ⟨k, rfl, hkn, hno, hB⟩ := hrel
    have HNO := hidK hno
    clear hno
    by_cases hk : k < n
    · have kI : (k : Int) < (n : Int) := by omega
      have k0 : (0 : Int) ≤ (k : Int) := by omega
      have hkl : k < L.length := by have := HN.out; omega
      obtain ⟨⟨x, pl⟩, hx⟩ : ∃ x, L[k]? = some x := ⟨_, List.getElem?_eq_getElem hkl⟩
      obtain ⟨b, off, cap, e1, d1, d2⟩ := (HV.out.on hB).at hx
      have HX := hidK hx
      have hcx := cell_onF HC.out hB
      injection e1 with e1 e2 e3
      clear e2 e3
      subst e1
      simp only [] at d1 d2
      clear hx hkl
      by_cases hq : x = nm
      · subst hq
        have HF := hidK (find1_y x pl B wr hcx)
        have HE := hidK (fstI_at (fstN_at HX.out rfl HNO.out))
        clear hcx
        go_wp2_with (go_at_call 26; refine HF.out.mono ?_; rintro e w3 ⟨rfl, hb3⟩)
        go_ret
        exact ⟨by rw [HE.out]; rfl, bel3K hB hb3⟩
      · have HF := hidK (find1_n x nm pl B wr hcx hq)
        have HQ := hidK hq
        clear hcx hq
        go_wp2_with (go_at_call 26; refine HF.out.mono ?_; rintro e w3 ⟨rfl, hb3⟩)
        go_roundw
        case rel =>
          refine ⟨k + 1, by go_num, by omega, fun j y hj hy => ?_, bel3K hB hb3⟩
          by_cases e : j = k
          · subst e; rw [HX.out] at hy; injection hy with hy; rw [← hy]; exact HQ.out
          · exact HNO.out j y (by omega) hy
        case measure => simp [intOf]; omega
    · obtain rfl : k = n := by omega
      have HE := hidK (fstI_no (fstN_no (L := L) (nm := nm) (fun j y hj hy => HNO.out j y (by have := HN.out; omega) hy)))
      clear HV
      go_wp2
      go_ret
      exact ⟨by rw [HE.out]; rfl, hB⟩
end Go.Proofs.YtcmldlcdgmmafaaDoor
