
-- Both Finds, over what a Decode says.
import Derived.Test.YtcmldlcdgmmafaaDoorFI
import Derived.Deep.CutRange
namespace Go.Proofs.YtcmldlcdgmmafaaDoor
open Go.ChangeShapes Go.WideShapes Go.ChangeAt Go.RowKit
set_option linter.unusedVariables false
set_option maxRecDepth 100000
def fdN (E : Int) (L : List En) (nm : ByteArray) : Int := if E ≠ 0 then 0 else ((fstN L nm).bind (fun j => L[j]?.map En.pl)).getD 0
def fdE (E : Int) (L : List En) (nm : ByteArray) : Int := if E ≠ 0 then E else if (fstN L nm).isSome = true then 0 else 112
/-- what a Find says -/
def FdSays (E : Int) (L : List En) (nm : ByteArray) (w : World) (e : Ending) (w' : World) : Prop := e = .returned (.tuple #[.int .i64 (fdN E L nm), .int .i64 (fdE E L nm)]) ∧ Below w.heap.size w w'
theorem FdSays.err {E : Int} {L : List En} {nm : ByteArray} {w w' : World} (hE : E ≠ 0) (h : Below w.heap.size w w') : FdSays E L nm w (.returned (.tuple #[.int .i64 0, .int .i64 E])) w' := by
  refine ⟨?_, h⟩; unfold fdN fdE; rw [if_pos hE, if_pos hE]
theorem FdSays.none {L : List En} {nm : ByteArray} {w w' : World} (hN : fstN L nm = none) (h : Below w.heap.size w w') : FdSays 0 L nm w (.returned (.tuple #[.int .i64 0, .int .i64 112])) w' := by
  refine ⟨?_, h⟩; unfold fdN fdE; rw [if_neg (by simp), if_neg (by simp), hN]; rfl
theorem FdSays.at {L : List En} {nm : ByteArray} {w w' : World} {k : Nat} {x : En} (hN : fstN L nm = some k) (hx : L[k]? = some x) (h : Below w.heap.size w w') : FdSays 0 L nm w (.returned (.tuple #[.int .i64 x.pl, .int .i64 0])) w' := by
  refine ⟨?_, h⟩; unfold fdN fdE; rw [if_neg (by simp), if_neg (by simp), hN]; simp [hx]
theorem fstN_some {L : List En} {nm : ByteArray} {k : Nat} (h : fstN L nm = some k) : ∃ x, L[k]? = some x := by
  unfold fstN at h
  rw [List.find?_range_eq_some] at h
  have : k < L.length := by simpa using h.2.1
  exact ⟨_, List.getElem?_eq_getElem this⟩
set_option maxHeartbeats 4000000 in
theorem pfind_e (f : Int) (s nm : ByteArray) (E : Int) (L : List En) (w : World) (hE : E ≠ 0)
    (HD : Hid (∀ w', Below w.heap.size w w' → Calls Tryd.prog 10 #[.int .i64 f, .string s] w' fun e w'' => DecSays E L w' e w'')) :
    Calls Tryd.prog 13 #[.int .i64 f, .string s, .string nm] w fun e w' => FdSays E L nm w e w' := by
  have h1 : (E == 0) = false := by simpa using hE
  have h2 : (E != 0) = true := by simpa using hE
  have HE := hidK hE
  clear hE
  have B0 := bupK (Below.refl w.heap.size w) (.cells #[.string nm] 9)
  go_enter Tryd.func13, Tryd.ntmps13
  go_wp2_with (go_at_call 10; refine (HD.out _ B0).mono ?_; rintro e w1 ⟨a, n, c, rfl, o1, b1⟩)
  go_ret2
  exact FdSays.err HE.out (bel3K B0 b1)
set_option maxHeartbeats 4000000 in
theorem pfind_n (f : Int) (s nm : ByteArray) (L : List En) (w : World) (hL : L.length < 4294967296) (hN : fstN L nm = none)
    (HD : Hid (∀ w', Below w.heap.size w w' → Calls Tryd.prog 10 #[.int .i64 f, .string s] w' fun e w'' => DecSays 0 L w' e w'')) :
    Calls Tryd.prog 13 #[.int .i64 f, .string s, .string nm] w fun e w' => FdSays 0 L nm w e w' := by
  have B0 := bupK (Below.refl w.heap.size w) (.cells #[.string nm] 9)
  have C0 : (w.alloc (.cells #[.string nm] 9)).heap[w.heap.size]? = some (.cells #[.string nm] 9 (0, 0)) := heap_alloc_new w _
  have HI : Hid (∀ v wx, RowE wx v L → wx.cell? ⟨w.heap.size, 0, none⟩ = some (.string nm) → Calls Tryd.prog 25 #[v, .func (.func 26) #[] #[.pointer (some ⟨w.heap.size, 0, none⟩)]] wx fun e w' => e = .returned (.int .i64 (-1)) ∧ Below wx.heap.size wx w') := fun v wx h1 h2 => by
    have := idxF_c v L nm w.heap.size wx h1 h2 hL
    rw [fstI_no hN] at this; exact this
  have HN := hidK hN
  clear hN hL
  go_enter Tryd.func13, Tryd.ntmps13
  go_wp2_with (first
    | (go_at_call 10; refine (HD.out _ B0).mono ?_; rintro e w1 ⟨a, n, c, rfl, o1, b1⟩; have O1 := hidK (rowE_own o1); have C1 := cell_rowK (hkeepK b1 C0) 0 (.string nm) rfl; clear o1)
    | (go_at_call 25; refine (HI.out _ _ O1.out C1).mono ?_; rintro e w2 ⟨rfl, b2⟩))
  go_ret2
  exact FdSays.none HN.out (bel3K (bel3K B0 b1) b2)
set_option maxHeartbeats 4000000 in
theorem pfind_y (f : Int) (s nm : ByteArray) (L : List En) (w : World) (k : Nat) (x : En) (hL : L.length < 4294967296) (hN : fstN L nm = some k) (hx : L[k]? = some x)
    (HD : Hid (∀ w', Below w.heap.size w w' → Calls Tryd.prog 10 #[.int .i64 f, .string s] w' fun e w'' => DecSays 0 L w' e w'')) :
    Calls Tryd.prog 13 #[.int .i64 f, .string s, .string nm] w fun e w' => FdSays 0 L nm w e w' := by
  have B0 := bupK (Below.refl w.heap.size w) (.cells #[.string nm] 9)
  have C0 : (w.alloc (.cells #[.string nm] 9)).heap[w.heap.size]? = some (.cells #[.string nm] 9 (0, 0)) := heap_alloc_new w _
  have hkl : k < L.length := (List.getElem?_eq_some_iff.1 hx).1
  have HI : Hid (∀ v wx, RowE wx v L → wx.cell? ⟨w.heap.size, 0, none⟩ = some (.string nm) → Calls Tryd.prog 25 #[v, .func (.func 26) #[] #[.pointer (some ⟨w.heap.size, 0, none⟩)]] wx fun e w' => e = .returned (.int .i64 (k : Int)) ∧ Below wx.heap.size wx w') := fun v wx h1 h2 => by
    have := idxF_c v L nm w.heap.size wx h1 h2 hL
    rw [fstI_at hN] at this; exact this
  have HN := hidK hN
  have HX := hidK hx
  have HK := hidK hkl
  have HL := hidK hL
  clear hN hL hx hkl
  obtain ⟨xn, pl⟩ := x
  go_enter Tryd.func13, Tryd.ntmps13
  go_upto_region 4 with (first
    | (go_at_call 10; refine (HD.out _ B0).mono ?_; rintro e w1 ⟨a, n, c, rfl, o1, b1⟩))
  have O1 := hidK (rowE_own o1)
  have C1 := cell_rowK (hkeepK b1 C0) 0 (.string nm) rfl
  have HI1 := hidK (HI.out _ _ O1.out C1)
  obtain ⟨b, off, cap, e1, _, _⟩ := O1.out.at HX.out
  injection e1 with e1 e2 e3
  subst e1
  subst e2
  clear o1 C0 C1 HI e3
  go_upto_region 7 with (go_at_call 25; refine HI1.out.mono ?_; rintro e w2 ⟨rfl, b2⟩)
  have O2 := O1.out.on b2
  obtain ⟨b', off', cap', e1, d1, d2⟩ := O2.at HX.out
  injection e1 with e1 e2 e3
  injection e1 with e1
  injection e1 with e1 e4 e5
  subst e1
  subst e4
  clear e2 e3 e5 O2
  have hkl := HK.out
  have hkL := HL.out
  generalize L.length = n at *
  have kI : (k : Int) < (n : Int) := by omega
  have k0 : (0 : Int) ≤ (k : Int) := by omega
  go_wp2
  go_ret2
  exact FdSays.at HN.out HX.out (bel3K (bel3K B0 b1) b2)
theorem pfind_c (f : Int) (s nm : ByteArray) (E : Int) (L : List En) (w : World) (hL : L.length < 4294967296)
    (HD : ∀ w', Below w.heap.size w w' → Calls Tryd.prog 10 #[.int .i64 f, .string s] w' fun e w'' => DecSays E L w' e w'') :
    Calls Tryd.prog 13 #[.int .i64 f, .string s, .string nm] w fun e w' => FdSays E L nm w e w' := by
  by_cases hE : E = 0
  · subst hE
    cases hN : fstN L nm with
    | none => exact pfind_n f s nm L w hL hN HD
    | some k =>
      obtain ⟨x, hx⟩ := fstN_some hN
      exact pfind_y f s nm L w k x hL hN hx HD
  · exact pfind_e f s nm E L w hE HD
end Go.Proofs.YtcmldlcdgmmafaaDoor
