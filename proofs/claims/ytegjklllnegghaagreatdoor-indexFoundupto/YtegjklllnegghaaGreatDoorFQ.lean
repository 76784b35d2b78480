import Derived.Test.YtegjklllnegghaaGreatDoorCC
import Derived.Deep.CutRange
import Derived.Test.YtegjklllnegghaaGreatDoorLZ
import Derived.Test.YtegjklllnegghaaGreatDoorEN
import Derived.Test.YtegjklllnegghaaGreatDoorRows
import Derived.WalkKit
import Derived.Deep.Slices
import Derived.ChangeSlices

-- index.Find: the search, contracts.
namespace Go.Proofs.YtegjklllnegghaaGreatDoor
open Go.ChangeShapes Go.WideShapes Go.ChangeAt Go.RowKit
set_option linter.unusedVariables false
set_option maxRecDepth 100000
/-- the first entry of this name -/
def fstN (L : List En) (nm : ByteArray) : Option Nat := (List.range L.length).find? (fun j => decide (L[j]?.map En.name = some nm))
def fstI (L : List En) (nm : ByteArray) : Int := match fstN L nm with | some j => (j : Int) | none => -1
theorem fstN_at {L : List En} {nm : ByteArray} {k : Nat} {x : En} (hx : L[k]? = some x) (h : x.name = nm) (hb : ∀ j y, j < k → L[j]? = some y → y.name ≠ nm) : fstN L nm = some k := by
  have hl := (List.getElem?_eq_some_iff.1 hx).1
  unfold fstN
  rw [List.find?_range_eq_some]
  refine ⟨by simp [hx, h], by simpa using hl, fun j hj => ?_⟩
  have hjl : j < L.length := by omega
  have := hb j _ hj (List.getElem?_eq_getElem hjl)
  simp [List.getElem?_eq_getElem hjl, this]
theorem fstN_no {L : List En} {nm : ByteArray} (hb : ∀ j y, j < L.length → L[j]? = some y → y.name ≠ nm) : fstN L nm = none := by
  unfold fstN
  rw [List.find?_range_eq_none]
  intro j hj
  have := hb j _ hj (List.getElem?_eq_getElem hj)
  simp [List.getElem?_eq_getElem hj, this]
theorem fstI_at {L : List En} {nm : ByteArray} {k : Nat} (h : fstN L nm = some k) : fstI L nm = (k : Int) := by unfold fstI; rw [h]
theorem fstI_no {L : List En} {nm : ByteArray} (h : fstN L nm = none) : fstI L nm = -1 := by unfold fstI; rw [h]
theorem cell_onF {w w' : World} {B : Nat} {v : Value} (h : w.cell? ⟨B, 0, none⟩ = some v) (hb : Below w.heap.size w w') : w'.cell? ⟨B, 0, none⟩ = some v := (hb.cell (p := ⟨B, 0, none⟩) (World.block_lt_of_cell? _ _ h)).trans h
theorem strNe {x y : ByteArray} (h : x ≠ y) : (x.toList == y.toList) = false := by
  rw [Lib.toList_data, Lib.toList_data]
  refine beq_eq_false_iff_ne.2 fun q => h ?_
  rw [← strL_of x, ← strL_of y, q]
theorem find1_y (nm : ByteArray) (p : Int) (B : Nat) (w : World) (hc : w.cell? ⟨B, 0, none⟩ = some (.string nm)) :
    Calls Tryz.prog 27 #[.agg #[.string nm, .int .i64 p], .pointer (some ⟨B, 0, none⟩)] w fun e w' => e = .returned (.bool true) ∧ Below w.heap.size w w' := by
  have c1 := cell_onF hc (bupK (Below.refl w.heap.size w) (.cells #[.string nm, .int .i64 p] 33))
  go_enter Tryz.func27, Tryz.ntmps27
  go_wp2
  go_ret
  exact ⟨rfl, bupK (Below.refl _ _) _⟩
theorem find1_n (x nm : ByteArray) (p : Int) (B : Nat) (w : World) (hc : w.cell? ⟨B, 0, none⟩ = some (.string nm)) (hx : x ≠ nm) :
    Calls Tryz.prog 27 #[.agg #[.string x, .int .i64 p], .pointer (some ⟨B, 0, none⟩)] w fun e w' => e = .returned (.bool false) ∧ Below w.heap.size w w' := by
  have c1 := cell_onF hc (bupK (Below.refl w.heap.size w) (.cells #[.string x, .int .i64 p] 33))
  have h1 := strNe hx
  go_enter Tryz.func27, Tryz.ntmps27
  go_wp2
  go_ret
  exact ⟨rfl, bupK (Below.refl _ _) _⟩
/-- what the search wants of a round -/
theorem RowE.at {w : World} {v : Value} {L : List En} {k : Nat} {x : En} (h : RowE w v L) (hx : L[k]? = some x) : ∃ b off cap, v = .slice (some ⟨b, off, none⟩) L.length cap ∧ w.cell? ⟨b, off + k * 2, none⟩ = some (.string x.name) ∧ w.cell? ⟨b, off + k * 2 + 1, none⟩ = some (.int .i64 x.pl) := by
  rcases h with ⟨rfl, _⟩ | ⟨b, off, cap, rfl, hc⟩
  · simp at hx
  · obtain ⟨c1, c2⟩ := hc k x hx
    exact ⟨b, off, cap, rfl, by rw [Nat.mul_comm]; exact c1, by rw [Nat.mul_comm]; exact c2⟩
set_option maxHeartbeats 4000000 in
theorem idxF_c (v : Value) (L : List En) (nm : ByteArray) (B : Nat) (w : World) (hv : RowE w v L) (hc : w.cell? ⟨B, 0, none⟩ = some (.string nm)) (hn : L.length < 4294967296) :
    Calls Tryz.prog 26 #[v, .func (.func 27) #[] #[.pointer (some ⟨B, 0, none⟩)]] w fun e w' => e = .returned (.int .i64 (fstI L nm)) ∧ Below w.heap.size w w' := by
  obtain ⟨a1, c1, q1⟩ := hv.form
  obtain ⟨n, hnn⟩ : ∃ n, n = L.length := ⟨_, rfl⟩
  have HN := hidK hnn
  have HV := hidK hv
  have HC := hidK hc
  subst q1
  rw [← hnn] at hn ⊢ HV
  clear hv hc hnn
  go_enter Tryz.func26, Tryz.ntmps26
  go_wp2
  go_loopw [8] (fun i wx => ∃ k : Nat, i = .int .i64 k ∧ k ≤ n ∧ (∀ j y, j < k → L[j]? = some y → y.name ≠ nm) ∧ Below w.heap.size w wx) (fun i _ => n - (intOf i).toNat)
  case atStart => exact ⟨0, rfl, Nat.zero_le _, fun j y h => absurd h (Nat.not_lt_zero _), Below.refl _ _⟩
  case round =>
    obtain ⟨k, rfl, hkn, hno, hB⟩ := hrel
    have HNO := hidK hno
    clear hno
    by_cases hk : k < n
    · have kI : (k : Int) < (n : Int) := by omega
      have k0 : (0 : Int) ≤ (k : Int) := by omega
      have hkl : k < L.length := by have := HN.out; omega
      obtain ⟨⟨x, pl⟩, hx⟩ : ∃ x, L[k]? = some x := ⟨_, List.getElem?_eq_getElem hkl⟩
      obtain ⟨b, off, cap, e1, d1, d2⟩ := (HV.out.on hB).at hx
      have HX := hidK hx
      have hcx := cell_onF HC.out hB
      injection e1 with e1 e2 e3
      clear e2 e3
      subst e1
      simp only [] at d1 d2
      clear hx hkl
      by_cases hq : x = nm
      · subst hq
        have HF := hidK (find1_y x pl B wr hcx)
        have HE := hidK (fstI_at (fstN_at HX.out rfl HNO.out))
        clear hcx
        go_wp2_with (go_at_call 27; refine HF.out.mono ?_; rintro e w3 ⟨rfl, hb3⟩)
        go_ret
        exact ⟨by rw [HE.out]; rfl, bel3K hB hb3⟩
      · have HF := hidK (find1_n x nm pl B wr hcx hq)
        have HQ := hidK hq
        clear hcx hq
        go_wp2_with (go_at_call 27; refine HF.out.mono ?_; rintro e w3 ⟨rfl, hb3⟩)
        go_roundw
        case rel =>
          refine ⟨k + 1, by go_num, by omega, fun j y hj hy => ?_, bel3K hB hb3⟩
          by_cases e : j = k
          · subst e; rw [HX.out] at hy; injection hy with hy; rw [← hy]; exact HQ.out
          · exact HNO.out j y (by omega) hy
        case measure => simp [intOf]; omega
    · obtain rfl : k = n := by omega
      have HE := hidK (fstI_no (fstN_no (L := L) (nm := nm) (fun j y hj hy => HNO.out j y (by have := HN.out; omega) hy)))
      clear HV
      go_wp2
      go_ret
      exact ⟨by rw [HE.out]; rfl, hB⟩
end Go.Proofs.YtegjklllnegghaaGreatDoor

-- Both Finds, over what a Decode says.
namespace Go.Proofs.YtegjklllnegghaaGreatDoor
open Go.ChangeShapes Go.WideShapes Go.ChangeAt Go.RowKit
set_option linter.unusedVariables false
set_option maxRecDepth 100000
def fdN (E : Int) (L : List En) (nm : ByteArray) : Int := if E ≠ 0 then 0 else ((fstN L nm).bind (fun j => L[j]?.map En.pl)).getD 0
def fdE (E : Int) (L : List En) (nm : ByteArray) : Int := if E ≠ 0 then E else if (fstN L nm).isSome = true then 0 else 112
/-- what a Find says -/
def FdSays (E : Int) (L : List En) (nm : ByteArray) (w : World) (e : Ending) (w' : World) : Prop := e = .returned (.tuple #[.int .i64 (fdN E L nm), .int .i64 (fdE E L nm)]) ∧ Below w.heap.size w w'
theorem FdSays.err {E : Int} {L : List En} {nm : ByteArray} {w w' : World} (hE : E ≠ 0) (h : Below w.heap.size w w') : FdSays E L nm w (.returned (.tuple #[.int .i64 0, .int .i64 E])) w' := by
  refine ⟨?_, h⟩; unfold fdN fdE; rw [if_pos hE, if_pos hE]
theorem FdSays.none {L : List En} {nm : ByteArray} {w w' : World} (hN : fstN L nm = none) (h : Below w.heap.size w w') : FdSays 0 L nm w (.returned (.tuple #[.int .i64 0, .int .i64 112])) w' := by
  refine ⟨?_, h⟩; unfold fdN fdE; rw [if_neg (by simp), if_neg (by simp), hN]; rfl
theorem FdSays.at {L : List En} {nm : ByteArray} {w w' : World} {k : Nat} {x : En} (hN : fstN L nm = some k) (hx : L[k]? = some x) (h : Below w.heap.size w w') : FdSays 0 L nm w (.returned (.tuple #[.int .i64 x.pl, .int .i64 0])) w' := by
  refine ⟨?_, h⟩; unfold fdN fdE; rw [if_neg (by simp), if_neg (by simp), hN]; simp [hx]
theorem fstN_some {L : List En} {nm : ByteArray} {k : Nat} (h : fstN L nm = some k) : ∃ x, L[k]? = some x := by
  unfold fstN at h
  rw [List.find?_range_eq_some] at h
  have : k < L.length := by simpa using h.2.1
  exact ⟨_, List.getElem?_eq_getElem this⟩
set_option maxHeartbeats 4000000 in
theorem pfind_e (f : Int) (s nm : ByteArray) (E : Int) (L : List En) (w : World) (hE : E ≠ 0)
    (HD : Hid (∀ w', Below w.heap.size w w' → Calls Tryz.prog 15 #[.int .i64 f, .string s] w' fun e w'' => DecSays E L w' e w'')) :
    Calls Tryz.prog 14 #[.int .i64 f, .string s, .string nm] w fun e w' => FdSays E L nm w e w' := by
  have h1 : (E == 0) = false := by simpa using hE
  have h2 : (E != 0) = true := by simpa using hE
  have HE := hidK hE
  clear hE
  have B0 := bupK (Below.refl w.heap.size w) (.cells #[.string nm] 9)
  go_enter Tryz.func14, Tryz.ntmps14
  go_wp2_with (go_at_call 15; refine (HD.out _ B0).mono ?_; rintro e w1 ⟨a, n, c, rfl, o1, b1⟩)
  go_ret2
  exact FdSays.err HE.out (bel3K B0 b1)
set_option maxHeartbeats 4000000 in
theorem pfind_n (f : Int) (s nm : ByteArray) (L : List En) (w : World) (hL : L.length < 4294967296) (hN : fstN L nm = none)
    (HD : Hid (∀ w', Below w.heap.size w w' → Calls Tryz.prog 15 #[.int .i64 f, .string s] w' fun e w'' => DecSays 0 L w' e w'')) :
    Calls Tryz.prog 14 #[.int .i64 f, .string s, .string nm] w fun e w' => FdSays 0 L nm w e w' := by
  have B0 := bupK (Below.refl w.heap.size w) (.cells #[.string nm] 9)
  have C0 : (w.alloc (.cells #[.string nm] 9)).heap[w.heap.size]? = some (.cells #[.string nm] 9 (0, 0)) := heap_alloc_new w _
  have HI : Hid (∀ v wx, RowE wx v L → wx.cell? ⟨w.heap.size, 0, none⟩ = some (.string nm) → Calls Tryz.prog 26 #[v, .func (.func 27) #[] #[.pointer (some ⟨w.heap.size, 0, none⟩)]] wx fun e w' => e = .returned (.int .i64 (-1)) ∧ Below wx.heap.size wx w') := fun v wx h1 h2 => by
    have := idxF_c v L nm w.heap.size wx h1 h2 hL
    rw [fstI_no hN] at this; exact this
  have HN := hidK hN
  clear hN hL
  go_enter Tryz.func14, Tryz.ntmps14
  go_wp2_with (first
    | (go_at_call 15; refine (HD.out _ B0).mono ?_; rintro e w1 ⟨a, n, c, rfl, o1, b1⟩; have O1 := hidK (rowE_own o1); have C1 := cell_rowK (hkeepK b1 C0) 0 (.string nm) rfl; clear o1)
    | (go_at_call 26; refine (HI.out _ _ O1.out C1).mono ?_; rintro e w2 ⟨rfl, b2⟩))
  go_ret2
  exact FdSays.none HN.out (bel3K (bel3K B0 b1) b2)
set_option maxHeartbeats 4000000 in
theorem pfind_y (f : Int) (s nm : ByteArray) (L : List En) (w : World) (k : Nat) (x : En) (hL : L.length < 4294967296) (hN : fstN L nm = some k) (hx : L[k]? = some x)
    (HD : Hid (∀ w', Below w.heap.size w w' → Calls Tryz.prog 15 #[.int .i64 f, .string s] w' fun e w'' => DecSays 0 L w' e w'')) :
    Calls Tryz.prog 14 #[.int .i64 f, .string s, .string nm] w fun e w' => FdSays 0 L nm w e w' := by
  have B0 := bupK (Below.refl w.heap.size w) (.cells #[.string nm] 9)
  have C0 : (w.alloc (.cells #[.string nm] 9)).heap[w.heap.size]? = some (.cells #[.string nm] 9 (0, 0)) := heap_alloc_new w _
  have hkl : k < L.length := (List.getElem?_eq_some_iff.1 hx).1
  have HI : Hid (∀ v wx, RowE wx v L → wx.cell? ⟨w.heap.size, 0, none⟩ = some (.string nm) → Calls Tryz.prog 26 #[v, .func (.func 27) #[] #[.pointer (some ⟨w.heap.size, 0, none⟩)]] wx fun e w' => e = .returned (.int .i64 (k : Int)) ∧ Below wx.heap.size wx w') := fun v wx h1 h2 => by
    have := idxF_c v L nm w.heap.size wx h1 h2 hL
    rw [fstI_at hN] at this; exact this
  have HN := hidK hN
  have HX := hidK hx
  have HK := hidK hkl
  have HL := hidK hL
  clear hN hL hx hkl
  obtain ⟨xn, pl⟩ := x
  go_enter Tryz.func14, Tryz.ntmps14
  go_upto_region 4 with (first
    | (go_at_call 15; refine (HD.out _ B0).mono ?_; rintro e w1 ⟨a, n, c, rfl, o1, b1⟩))
  have O1 := hidK (rowE_own o1)
  have C1 := cell_rowK (hkeepK b1 C0) 0 (.string nm) rfl
  have HI1 := hidK (HI.out _ _ O1.out C1)
  obtain ⟨b, off, cap, e1, _, _⟩ := O1.out.at HX.out
  injection e1 with e1 e2 e3
  subst e1
  subst e2
  clear o1 C0 C1 HI e3
  go_upto_region 7 with (go_at_call 26; refine HI1.out.mono ?_; rintro e w2 ⟨rfl, b2⟩)
  have O2 := O1.out.on b2
  obtain ⟨b', off', cap', e1, d1, d2⟩ := O2.at HX.out
  injection e1 with e1 e2 e3
  injection e1 with e1
  injection e1 with e1 e4 e5
  subst e1
  subst e4
  clear e2 e3 e5 O2
  have hkl := HK.out
  have hkL := HL.out
  generalize L.length = n at *
  have kI : (k : Int) < (n : Int) := by omega
  have k0 : (0 : Int) ≤ (k : Int) := by omega
  go_wp2
  go_ret2
  exact FdSays.at HN.out HX.out (bel3K (bel3K B0 b1) b2)
theorem pfind_c (f : Int) (s nm : ByteArray) (E : Int) (L : List En) (w : World) (hL : L.length < 4294967296)
    (HD : ∀ w', Below w.heap.size w w' → Calls Tryz.prog 15 #[.int .i64 f, .string s] w' fun e w'' => DecSays E L w' e w'') :
    Calls Tryz.prog 14 #[.int .i64 f, .string s, .string nm] w fun e w' => FdSays E L nm w e w' := by
  by_cases hE : E = 0
  · subst hE
    cases hN : fstN L nm with
    | none => exact pfind_n f s nm L w hL hN HD
    | some k =>
      obtain ⟨x, hx⟩ := fstN_some hN
      exact pfind_y f s nm L w k x hL hN hx HD
  · exact pfind_e f s nm E L w hE HD
end Go.Proofs.YtegjklllnegghaaGreatDoor

-- IndexFound's walk.
namespace Go.Proofs.YtegjklllnegghaaGreatDoor
open Go.ChangeShapes Go.WideShapes Go.ChangeAt Go.RowKit
set_option linter.unusedVariables false
set_option maxRecDepth 100000
set_option maxHeartbeats 8000000 in
theorem indexFound_w (k : Int) (nm : ByteArray) (ao : Option Addr) (c : Nat) (L0 : List En) (w : World) (hv : RowE w (.slice ao L0.length c) L0) (hc : L0.length ≤ c) (hT : totN (L0.map En.name) ≤ 1048576) (hX : MaxLenAt w) :
    Calls Tryz.prog 4 #[.int .i64 k, .slice ao L0.length c, .string nm] w fun e w' => e = .returned (.bool true) ∧ Below w.heap.size w w' := by
  have hN : L0.length ≤ 1048576 := by have := totN_len (L0.map En.name); rw [List.length_map] at this; omega
  obtain ⟨f, hf⟩ : ∃ f, f = frm k := ⟨_, rfl⟩
  have hkf : known f := by rw [hf]; exact frm_known k
  have HFM : Hid (∀ w, Calls Tryz.prog 7 #[.int .i64 k] w fun e w' => e = .returned (.int .i64 f) ∧ w' = w) := fun w => by rw [hf]; exact formed_c k w
  have hFI := fitted_c f hkf ao c L0 w hv hc hN (fun x hx => Nat.le_trans (nm_le L0 x hx) hT)
  have h1 := fitL_len f L0
  have h2 := fitL_good f L0
  have h3 := fitL_pl f L0
  have h4 := fitL_tot f L0 hT
  obtain ⟨F, hF⟩ : ∃ F, F = fitL f L0 := ⟨_, rfl⟩
  rw [← hF] at hFI h1 h2 h3 h4
  have hbk := back_ok f hkf F h1 (by omega) h2 h3
  have hln := encB_len f F hkf
  have HEN : Hid (∀ v w, RowE w v F → Calls Tryz.prog 9 #[.int .i64 f, v] w fun e w' => e = .returned (.tuple #[.string ⟨(encB f F).toArray⟩, .int .i64 0]) ∧ Below w.heap.size w w') := fun v w hv => enc_ok f hkf v F w hv h1 (by omega) h2 h3
  obtain ⟨S, hS⟩ : ∃ S, S = headN f F.length + evenN (totN (F.map En.name)) := ⟨_, rfl⟩
  have hS2 : S % 2 = 0 := by
    rw [hS]; unfold headN evenN; split <;> omega
  have hSb : S ≤ 1100000 := by
    rw [hS]; unfold headN evenN; split <;> omega
  obtain ⟨b, hb⟩ : ∃ b : ByteArray, b = ⟨(encB f F).toArray⟩ := ⟨_, rfl⟩
  rw [← hb] at HEN
  have hbs : b.size = S := by rw [hb, hS, ← hln]; rfl
  have hbd : b.data.toList = encB f F := by rw [hb]
  have HDE : Hid (∀ w, MaxLenAt w → Calls Tryz.prog 15 #[.int .i64 f, .string b] w fun e w' => DecSays 0 F w e w') := fun w hx => by
    have := pdec_c f b w (by omega) hx
    unfold DSays decE decL at this
    rw [hbd, hbk, if_neg (fun q => q hkf)] at this
    exact this
  have HTW : Hid (∀ ao c w, RowE w (.slice ao F.length c) F → (ao = none → c = 0) → Calls Tryz.prog 10 #[.slice ao F.length c] w fun e w' => ∃ v, e = .returned v ∧ RowE w' v F ∧ Below w.heap.size w w') := fun ao c w hv h0 => twin11_c ao c F w hv h0 (by omega)
  have HU : Hid (∀ n w, Calls Tryz.prog 11 #[.int .i64 n] w fun e w' => e = .returned (.int .i64 n) ∧ w' = w) := fun n w => num_cZ n w
  have HFI := hidK hFI
  have HX := hidK hX
  obtain ⟨n0, hn0⟩ : ∃ n0, n0 = F.length := ⟨_, rfl⟩
  have hFE : ∀ w, MaxLenAt w → Calls Tryz.prog 14 #[.int .i64 f, .string b, .string nm] w fun e w' => FdSays 0 F nm w e w' := fun w hx => pfind_c f b nm 0 F w (by omega) (fun w' hb' => HDE.out w' (hx.on hb'))
  have HFE := hidK hFE
  have HL0 := hidK h1
  have HN0 := hidK hn0
  have hn0b : n0 ≤ 2000 := by rw [hn0]; exact h1
  rw [← hn0] at HFI HTW
  clear hFE
  have hSI : (S : Int) ≤ 1100000 := by omega
  have HBS : Hid (b.size = S) := hbs
  clear hFI hX hv hc hT hN hf hkf h1 h2 h3 h4 hF hbk hln hS hb hbd hS2 hSb hn0 HDE HBS hSI hbs
  go_enter Tryz.func4, Tryz.ntmps4
  go_upto_region 7 with (first
    | (go_at_call 7; refine (HFM.out _).mono ?_; rintro e w0 ⟨rfl, rfl⟩)
    | (go_at_call 8; refine HFI.out.mono ?_; rintro e w1 ⟨ao1, c1, rfl, r1, b1, z1⟩; have R1 := hidK r1; have Z1 := hidK z1; clear r1 z1)
    | (go_at_call 10; refine (HTW.out _ _ _ R1.out Z1.out).mono ?_; rintro e w2 ⟨v2, rfl, r2, b2⟩; have R2 := hidK r2; have B2 := bel3K b1 b2; have R12 := hidK (R1.out.on b2); clear r2)
    | (go_at_call 9; refine (HEN.out _ _ R2.out).mono ?_; rintro e w3 ⟨rfl, b3⟩; have B3 := bel3K B2 b3; have R13 := hidK (R12.out.on b3); have X3 := hidK (HX.out.on B3))
    | (go_at_call 14; refine (HFE.out _ X3.out).mono ?_; rintro e w4 ⟨rfl, b4⟩; have B4 := bel3K B3 b4; have R14 := hidK (R13.out.on b4))
    | (go_at_call 11; refine (HU.out _ _).mono ?_; rintro e w8 ⟨rfl, rfl⟩))
  obtain ⟨at_, hat⟩ : ∃ at_, at_ = fdN 0 F nm := ⟨_, rfl⟩
  obtain ⟨d_, hd⟩ : ∃ d_, d_ = fdE 0 F nm := ⟨_, rfl⟩
  have HAT := hidK hat
  have HD := hidK hd
  rw [← hat, ← hd]
  have HB4 := hidK B4
  clear hat hd B4 b4 B3 b3 B2 b2 b1 R13 R12 R2 R1 Z1 X3 HFE HFM HFI HTW HEN
  go_wp2
  go_loopw [13] (fun i wx => ∃ j : Nat, i = .int .i64 j ∧ j ≤ n0 ∧ (∀ j' y, j' < j → F[j']? = some y → y.name ≠ nm) ∧ wx = w4) (fun i _ => n0 - (intOf i).toNat)
  case atStart => exact ⟨0, rfl, Nat.zero_le _, fun j' y h => absurd h (Nat.not_lt_zero _), rfl⟩
  case round =>
    obtain ⟨j, rfl, hjn, hno, rfl⟩ := hrel
    have HNO := hidK hno
    clear hno
    by_cases hj : j < n0
    · have jI : (j : Int) < (n0 : Int) := by omega
      have j0 : (0 : Int) ≤ (j : Int) := by omega
      have hjl : j < F.length := by have := HN0.out; omega
      obtain ⟨⟨x, pl⟩, hx⟩ : ∃ x, F[j]? = some x := ⟨_, List.getElem?_eq_getElem hjl⟩
      obtain ⟨b5, off, cap, e1, d1, d2⟩ := R14.out.at hx
      have HXX := hidK hx
      injection e1 with e1 e2 e3
      clear e2 e3
      subst e1
      simp only [] at d1 d2
      clear hx hjl
      by_cases hq : x = nm
      · subst hq
        have hk := fstN_at HXX.out rfl HNO.out
        have e4 : at_ = pl := by rw [HAT.out]; unfold fdN; simp [hk, HXX.out]
        have e5 : d_ = 0 := by rw [HD.out]; unfold fdE; simp [hk]
        subst e4
        subst e5
        clear hk HAT HD HNO
        go_wp2_with (go_at_call 11; refine (HU.out _ _).mono ?_; rintro e w8 ⟨rfl, rfl⟩)
        go_ret
        exact ⟨by simp, HB4.out⟩
      · have h1 := strNe hq
        have HQ := hidK hq
        clear hq
        go_wp2
        go_roundw
        case rel =>
          refine ⟨j + 1, by go_num, by omega, fun j' y hj' hy => ?_, trivial⟩
          by_cases e : j' = j
          · subst e; rw [HXX.out] at hy; injection hy with hy; rw [← hy]; exact HQ.out
          · exact HNO.out j' y (by omega) hy
        case measure => simp [intOf]; omega
    · obtain rfl : j = n0 := by omega
      have hk := fstN_no (L := F) (nm := nm) (fun j' y hj' hy => HNO.out j' y (by have := HN0.out; omega) hy)
      have e4 : at_ = 0 := by rw [HAT.out]; unfold fdN; simp [hk]
      have e5 : d_ = 112 := by rw [HD.out]; unfold fdE; simp [hk]
      subst e4
      subst e5
      clear hk HAT HD HNO R14
      go_wp2_with (go_at_call 11; refine (HU.out _ _).mono ?_; rintro e w8 ⟨rfl, rfl⟩)
      go_ret
      exact ⟨by simp, HB4.out⟩
end Go.Proofs.YtegjklllnegghaaGreatDoor

-- A list of entries as it is read.
namespace Go.Proofs.YtegjklllnegghaaGreatDoor
open Go.RowKit Go.ChangeShapes Go.Deep
set_option linter.unusedVariables false
set_option maxRecDepth 100000
theorem bulk_appE {H : Type} (l r : List (DataW H)) : Rows.uptoBulkAll (l ++ r) = Rows.uptoBulkAll l + Rows.uptoBulkAll r := by
  induction l with
  | nil => simp [Rows.uptoBulkAll]
  | cons x l ih => simp only [List.cons_append, Rows.uptoBulkAll, ih]; omega
theorem bulk_posE {H : Type} (d : DataW H) : 1 ≤ Rows.uptoBulk d := by
  cases d with
  | lit l => cases l <;> simp [Rows.uptoBulk]
  | _ => simp [Rows.uptoBulk]
theorem bulk_lenE {H : Type} (l : List (DataW H)) : l.length ≤ Rows.uptoBulkAll l := by
  induction l with
  | nil => simp [Rows.uptoBulkAll]
  | cons x r ih => simp only [Rows.uptoBulkAll, List.length_cons]; have := bulk_posE x; omega
theorem cellsIE : Tryz.prog.cellsOf 3 = 1 := by kernel_rfl
theorem cellsSE : Tryz.prog.cellsOf 9 = 1 := by kernel_rfl
theorem cellsEE : Tryz.prog.cellsOf 33 = 2 := by kernel_rfl
theorem add_offE (b off k : Nat) : (⟨b, off, none⟩ : Addr).add k = ⟨b, off + k, none⟩ := by unfold Addr.add; split <;> simp_all
theorem len2E {α : Type} {l : List α} (h : l.length = 2) : ∃ a b, l = [a, b] := by
  match l, h with
  | [a, b], _ => exact ⟨a, b, rfl⟩
def EnAt (w : World) (b off : Nat) (x : En) : Prop := w.cell? ⟨b, off, none⟩ = some (.string x.name) ∧ w.cell? ⟨b, off + 1, none⟩ = some (.int .i64 x.pl)
section
variable {H : Type} {enc : TypeId × Value → H} {w : World} {spare : Nat → Bool} {held : Bool}
/-- One entry as it is read. -/
theorem open_entry {n : Nat} {b off : Nat} {cs : List Value} {x : DataW H × List MemPlace} (h1 : w.cells? 0 ⟨b, off, none⟩ 2 = some cs) (h : DataW.trod enc Tryz.prog w 0 spare held n 33 cs = some x) :
    ∃ o : En, EnAt w b off o ∧ o.name.size + 1 ≤ Rows.uptoBulk x.1 := by
  obtain ⟨_, hlen, hcell⟩ := World.cells?_some h1
  obtain ⟨xs, m, rfl, hx, _, hxl, hf⟩ := DataW.trod_struct Tryz.underlying33 h
  obtain ⟨y0, y1, rfl⟩ := len2E hxl
  obtain ⟨v0, v1, rfl⟩ := len2E hlen
  have g0 : DataW.trod enc Tryz.prog w 0 spare held m 9 [v0] = some y0 := by simpa [cellsSE] using hf 0 _ rfl
  have g1 : DataW.trod enc Tryz.prog w 0 spare held m 3 [v1] = some y1 := by simpa [cellsSE, cellsIE] using hf 1 _ rfl
  obtain ⟨s0, e0, z0, _⟩ := DataW.trod_string Tryz.underlying9 g0
  obtain ⟨k1, e1, _, _⟩ := DataW.trod_int Tryz.underlying3 g1
  cases e0; cases e1
  have cell : ∀ i v, [Value.string s0, .int .i64 k1][i]? = some v → w.cell? ⟨b, off + i, none⟩ = some v := fun i v hv => by
    have hi : i < 2 := by
      rcases Nat.lt_or_ge i 2 with h' | h'
      · exact h'
      · rw [List.getElem?_eq_none (by simpa using h')] at hv; cases hv
    have := hcell i hi
    rw [add_offE] at this
    rw [this]; exact hv
  have hbx : Rows.uptoBulk y0.1 + 1 ≤ Rows.uptoBulk x.1 := by
    rw [hx]
    simp only [Rows.uptoBulk, List.map_cons, List.map_nil, Rows.uptoBulkAll]
    omega
  have hs0 : s0.size ≤ Rows.uptoBulk y0.1 := by
    rw [z0]
    simp only [Rows.uptoBulk, Array.length_toList]
    show s0.data.size ≤ _
    omega
  exact ⟨⟨s0, k1⟩, ⟨cell 0 _ rfl, cell 1 _ rfl⟩, by show s0.size + 1 ≤ _; omega⟩
theorem tot_rangeE (f : Nat → En) (D : Nat → DataW H) : ∀ n, (∀ i, i < n → (f i).name.size + 1 ≤ Rows.uptoBulk (D i)) → totN (((List.range n).map f).map En.name) ≤ Rows.uptoBulkAll ((List.range n).map D)
  | 0, _ => by simp [totN]
  | n + 1, h => by
    have ih := tot_rangeE f D n (fun i hi => h i (by omega))
    rw [List.range_succ, List.map_append, List.map_append, List.map_append, totN_append, bulk_appE]
    have hn := h n (by omega)
    simp only [List.map_cons, List.map_nil, totN, Rows.uptoBulkAll]; omega
/-- A list of entries as it is read. -/
theorem open_entries {fuel : Nat} {v : Value} {x : DataW H × List MemPlace} (h : DataW.trod enc Tryz.prog w 0 spare held fuel 22 [v] = some x) (hB : Rows.uptoBulk x.1 ≤ 1048576) :
    ∃ l : List En, RowE w v l ∧ totN (l.map En.name) ≤ 1048576 ∧ ∃ ao c, v = .slice ao l.length c ∧ l.length ≤ c ∧ (ao = none → l = []) := by
  rcases open_slice Tryz.underlying22 h with ⟨hcs, _⟩ | ⟨a, len, cap, m, n, D, Pl, hcs, _, hl, hm, hmm, hx, hel⟩
  · cases hcs
    exact ⟨[], .inl ⟨rfl, _, _, rfl⟩, by simp [totN], none, 0, rfl, Nat.le_refl _, fun _ => rfl⟩
  · cases hcs
    have hlm : len ≤ m := by rw [hmm]; split <;> omega
    have hxb : Rows.uptoBulk x.1 = Rows.uptoBulkAll ((List.range len).map D) + Rows.uptoBulkAll ((List.range (m - len)).map fun j => D (len + j)) + 1 := by rw [hx]; simp only [Rows.uptoBulk]
    rcases Nat.eq_zero_or_pos len with h0 | h0
    · subst h0
      exact ⟨[], .inl ⟨rfl, _, _, rfl⟩, by simp [totN], _, _, rfl, Nat.zero_le _, fun _ => rfl⟩
    · rw [cellsEE] at hel
      obtain ⟨b, off, spot⟩ := a
      have hs : spot = none := by
        obtain ⟨cs', h1, _⟩ := hel 0 (by omega)
        obtain ⟨_, hl1, hc1⟩ := World.cells?_some h1
        have := hc1 0 (by omega)
        rw [List.getElem?_eq_getElem (by omega)] at this
        simpa [Addr.add] using World.cell?_spot this
      subst hs
      have each : ∀ i, i < len → ∃ o : En, EnAt w b (off + i * 2) o ∧ o.name.size + 1 ≤ Rows.uptoBulk (D i) := by
        intro i hi
        obtain ⟨cs', h1, h2⟩ := hel i (by omega)
        rw [add_offE] at h1
        exact open_entry h1 h2
      haveI : Inhabited En := ⟨⟨⟨#[]⟩, 0⟩⟩
      obtain ⟨f, hf⟩ := choose_lt each
      have hg : ∀ (j : Nat) (o : En), ((List.range len).map f)[j]? = some o → j < len ∧ o = f j := by
        intro j o hj
        rw [List.getElem?_map] at hj
        rcases Nat.lt_or_ge j len with h' | h'
        · rw [List.getElem?_range h'] at hj; cases hj; exact ⟨h', rfl⟩
        · rw [List.getElem?_eq_none (by simpa using h')] at hj; cases hj
      have ht := tot_rangeE f D len (fun i hi => (hf i hi).2)
      refine ⟨(List.range len).map f, .inr ⟨b, off, cap, by simp, fun j o hj => ?_⟩, by omega, _, cap, by simp; rfl, by simpa using hl, fun e => by cases e⟩
      obtain ⟨hj', rfl⟩ := hg j o hj
      have := (hf j hj').1
      rw [Nat.mul_comm] at this
      exact this
end
end Go.Proofs.YtegjklllnegghaaGreatDoor
