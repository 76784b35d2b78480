
-- index.writeNames: a contract.
import Derived.Test.YtegjklllnegghaaGreatDoorWP
namespace Go.Proofs.YtegjklllnegghaaGreatDoor
open Go.ChangeShapes Go.WideShapes Go.ChangeAt Go.RowKit
set_option linter.unusedVariables false
set_option maxRecDepth 100000
/-- the names, each with its end -/
def nmB (L : List En) : List UInt8 := L.flatMap (fun x => x.name.data.toList ++ [0])
theorem nmB_snoc (L : List En) (x : En) : nmB (L ++ [x]) = nmB L ++ (x.name.data.toList ++ [0]) := by unfold nmB; simp
theorem nmB_len (L : List En) : (nmB L).length = totN (L.map En.name) := by
  induction L with
  | nil => rfl
  | cons x r ih =>
    have e : nmB (x :: r) = (x.name.data.toList ++ [0]) ++ nmB r := rfl
    have h : x.name.data.toList.length = x.name.size := by rw [Array.length_toList]; rfl
    rw [e, List.length_append, ih, List.length_append, List.map_cons, h]
    simp only [totN, List.length_singleton]
/-- a row of these names -/
def NmRow (L : List En) (g : Nat) (w : World) : Prop := ∃ row : Array Value, w.heap[g]? = some (.cells row 9 (0, 0)) ∧ ∀ (j : Nat) (x : En), L[j]? = some x → row[j]? = some (.string x.name)
theorem NmRow.kept {L : List En} {g b : Nat} {w w' : World} (h : NmRow L g w) (k : Kept b w w') (hg : g ≠ b) : NmRow L g w' := by
  obtain ⟨row, h1, h2⟩ := h
  exact ⟨row, kept_row k h1 (by decide) hg, h2⟩
theorem NmRow.on {L : List En} {g : Nat} {w w' : World} (h : NmRow L g w) (hb : Below w.heap.size w w') : NmRow L g w' := by
  obtain ⟨row, h1, h2⟩ := h
  exact ⟨row, hkeepK hb h1, h2⟩
set_option maxHeartbeats 8000000 in
theorem writeNames_c (B b g c : Nat) (bs : List UInt8) (L : List En) (p : Nat) (w : World) (hr : NmRow L g w) (h : IsB B b bs w) (hB : B ≤ w.heap.size) (hgb : g ≠ b) (hL : L.length ≤ 1073741824) (hlen : bs.length ≤ 17179869184) (hT : totN (L.map En.name) ≤ 17179869184) (hp : p ≤ 8) :
    Calls Tryz.prog 24 #[.pointer (some ⟨b, 0, none⟩), .slice (some ⟨g, 0, none⟩) L.length c, .int .i64 (totN (L.map En.name) + p : Nat)] w fun e w' => e = .returned (.tuple #[]) ∧ IsB B b (bs ++ nmB L ++ List.replicate p 0) w' ∧ Below B w w' := by
  have HR := hidK hr
  have HI := hidK h
  obtain ⟨m, hmm⟩ : ∃ m, m = L.length := ⟨_, rfl⟩
  obtain ⟨T, hTT⟩ : ∃ T, T = totN (L.map En.name) := ⟨_, rfl⟩
  have HN := hidK hmm
  have HTT := hidK hTT
  rw [← hmm] at hL ⊢
  rw [← hTT] at hT ⊢
  clear hr h hmm hTT
  go_enter Tryz.func24, Tryz.ntmps24
  go_wp2
  go_loopw [2, 10] (fun u i wx => ∃ k : Nat, u = .int .i64 ((T : Int) + p - (begN (L.take k) : Nat)) ∧ i = .int .i64 k ∧ k ≤ m ∧ NmRow L g wx ∧ IsB B b (bs ++ nmB (L.take k)) wx ∧ Below B w wx) (fun _ i _ => m - (intOf i).toNat)
  case atStart => exact ⟨0, by simp [begN, totN], rfl, Nat.zero_le _, HR.out, by simpa [nmB] using HI.out, Below.refl _ _⟩
  case round =>
    obtain ⟨k, rfl, rfl, hkn, hR, hI, hBx⟩ := hrel
    have HRx := hidK hR
    have HIx := hidK hI
    have HBx := hidK hBx
    have hws := hBx.size
    have hbt : begN (L.take k) ≤ T := by
      have := totN_takeK (L.map En.name) k
      rw [← List.map_take] at this
      have e := HTT.out
      unfold begN; omega
    have hlk : (bs ++ nmB (L.take k)).length ≤ 34359738368 := by
      rw [List.length_append, nmB_len]; unfold begN at hbt; omega
    have HLK := hidK hlk
    clear hR hI hBx hlk
    by_cases hk : k < m
    · have kI : (k : Int) < (m : Int) := by omega
      have k0 : (0 : Int) ≤ (k : Int) := by omega
      have hkl : k < L.length := by have := HN.out; omega
      obtain ⟨⟨nm, pl⟩, hx⟩ : ∃ x, L[k]? = some x := ⟨_, List.getElem?_eq_getElem hkl⟩
      obtain ⟨row, r1, r2⟩ := HRx.out
      have cc := cell_rowK r1 k (.string nm) (r2 k _ hx)
      have hbg : begN (L.take (k + 1)) = begN (L.take k) + (nm.size + 1) := by
        unfold begN; rw [take_snoc hx, List.map_append]; exact totN_snoc _ nm
      have hbl2 : begN (L.take (k + 1)) ≤ T := by
        have := totN_takeK (L.map En.name) (k + 1)
        rw [← List.map_take] at this
        have e := HTT.out
        unfold begN; omega
      have HE : Hid (nmB (L.take (k + 1)) = nmB (L.take k) ++ (nm.data.toList ++ [0])) := (by show _ = _; rw [take_snoc hx, nmB_snoc])
      have HBG := hidK hbg
      have hnz : nm.data.toList.length = nm.size := by rw [Array.length_toList]; rfl
      have HNZ := hidK hnz
      rw [hbg] at hbl2
      generalize begN (L.take k) = q at *
      generalize nmB (L.take k) = Z at *
      clear hx hkl hbg r1 r2 hnz
      go_upto_region 5 with (first
        | (go_at_call 37; refine (writeString_c B b _ nm wr HIx.out (by have := HLK.out; omega) (Nat.le_trans hB hws)).mono ?_; rintro e w3 ⟨rfl, i3, b3, k3⟩)
        | (go_at_call 38; refine (writeByte_c B b _ 0 w3 i3 (by have := HLK.out; rw [List.length_append, HNZ.out]; omega) (Nat.le_trans (Nat.le_trans hB hws) b3.size)).mono ?_; rintro e w4 ⟨rfl, i4, b4, k4⟩))
      have HI4 := hidK i4
      have HR4 := hidK ((HRx.out.kept k3 hgb).kept k4 hgb)
      have HB4 := hidK ((HBx.out.trans b3).trans b4)
      clear cc i3 b3 k3 i4 b4 k4
      go_wp2
      go_roundw
      case rel =>
        refine ⟨k + 1, by rw [HBG.out]; go_num, by go_num, by omega, HR4.out, ?_, HB4.out⟩
        rw [HE.out]
        simpa using HI4.out
      case measure => simp [intOf]; omega
    · obtain rfl : k = m := by omega
      have hfull : begN (L.take k) = T := by
        rw [List.take_of_length_le (by rw [HN.out]; exact Nat.le_refl _)]; exact HTT.out.symm
      have HI2 : Hid (IsB B b (bs ++ nmB L) wr) := (by have := HIx.out; rw [List.take_of_length_le (by rw [HN.out]; exact Nat.le_refl _)] at this; exact this)
      have HLK2 : Hid ((bs ++ nmB L).length ≤ 34359738368) := (by have := HLK.out; rw [List.take_of_length_le (by rw [HN.out]; exact Nat.le_refl _)] at this; exact this)
      have ep : (T : Int) + p - (T : Nat) = (p : Int) := by omega
      rw [hfull, ep]
      clear hfull HIx HLK ep
      go_wp2
      go_loopw [26] (fun i wx => ∃ j : Nat, i = .int .i64 j ∧ j ≤ p ∧ IsB B b (bs ++ nmB L ++ List.replicate j 0) wx ∧ Below B w wx) (fun i _ => p - (intOf i).toNat)
      case atStart => exact ⟨0, rfl, Nat.zero_le _, by simpa using HI2.out, HBx.out⟩
      case round =>
        obtain ⟨j, rfl, hjp, hI, hBj⟩ := hrel
        have HIj := hidK hI
        have HBj := hidK hBj
        have hwj := hBj.size
        clear hI hBj
        by_cases hj : j < p
        · have jI : (j : Int) < (p : Int) := by omega
          go_wp2_with (go_at_call 38; refine (writeByte_c B b _ 0 _ HIj.out (by have := HLK2.out; rw [List.length_append, List.length_replicate]; omega) (Nat.le_trans hB hwj)).mono ?_; rintro e w4 ⟨rfl, i4, b4, k4⟩)
          go_roundw
          case rel =>
            refine ⟨j + 1, by go_num, by omega, ?_, HBj.out.trans b4⟩
            rw [List.replicate_succ', ← List.append_assoc]
            exact i4
          case measure => simp [intOf]; omega
        · obtain rfl : j = p := by omega
          go_wp2
          go_end0
          exact ⟨rfl, HIj.out, HBj.out⟩
end Go.Proofs.YtegjklllnegghaaGreatDoor
