
-- The document's Decode (1): lines, remarks, tokens.
import Derived.Test.YtdamhdceajmdfaaDoorPC
import Derived.Test.YtdamhdceajmdfaaDoorLP
import Derived.Test.YtdamhdceajmdfaaDoorCX
import Derived.Test.YtdamhdceajmdfaaDoorAQ
import Derived.Test.YtdamhdceajmdfaaDoorLJ
import Derived.Test.YtdamhdceajmdfaaDoorK3
namespace Go.Proofs.YtdamhdceajmdfaaDoor
open Go.ChangeShapes Go.WideShapes Go.ChangeAt Go.RowKit Go.MapKept
set_option linter.unusedVariables false
set_option maxRecDepth 100000
set_option linter.unusedSimpArgs false
theorem byL_extract (s : ByteArray) (i j : Nat) : byL (s.extract i j) = ((byL s).take j).drop i := by
  unfold byL
  rw [ByteArray.data_extract, Array.toList_extract, List.extract_eq_take_drop, List.drop_take]
theorem extract_byB (s : ByteArray) (i j : Nat) : s.extract i j = byB (((byL s).take j).drop i) := byL_inj (by rw [byL_extract, byL_byB])
theorem sliceMid (s : ByteArray) (i j : Nat) (hij : i ≤ j) (hj : j ≤ s.size) : ∀ W, (Instr.slice 9 (.string s) (some (.int .i64 (i : Int))) (some (.int .i64 (j : Int))) none).run Tryd.prog W = .ok (.string (byB (((byL s).take j).drop i))) W := by
  intro W
  rw [← extract_byB]
  have h1 : (i : Int) ≤ (j : Int) := by omega
  have h2 : (j : Int) ≤ (s.size : Int) := by omega
  simp [go_sem, Tryd.underlying9, h1, h2]
theorem sliceEnd (s : ByteArray) (i : Nat) (hi : i ≤ s.size) : ∀ W, (Instr.slice 9 (.string s) (some (.int .i64 (i : Int))) none none).run Tryd.prog W = .ok (.string (byB ((byL s).drop i))) W := by
  intro W
  have e : (byL s).drop i = ((byL s).take s.size).drop i := by rw [List.take_of_length_le (by rw [byL_size]; exact Nat.le_refl _)]
  rw [e, ← extract_byB]
  have h1 : (i : Int) ≤ (s.size : Int) := by omega
  simp [go_sem, Tryd.underlying9, h1]
theorem sliceBeg (s : ByteArray) (j : Nat) (hj : j ≤ s.size) : ∀ W, (Instr.slice 9 (.string s) none (some (.int .i64 (j : Int))) none).run Tryd.prog W = .ok (.string (byB ((byL s).take j))) W := by
  intro W
  have e : (byL s).take j = ((byL s).take j).drop 0 := rfl
  rw [e, ← extract_byB]
  have h1 : (j : Int) ≤ (s.size : Int) := by omega
  simp [go_sem, Tryd.underlying9, h1]
theorem stepD {l : List UInt8} {i fr : Nat} {b : UInt8} (hb : l[i]? = some b) (hfi : fr ≤ i) : (l.take (i + 1)).drop fr = (l.take i).drop fr ++ [b] := by
  have hi : i < l.length := (List.getElem?_eq_some_iff.1 hb).1
  rw [takeSucc hb, List.drop_append_of_le_length (by rw [List.length_take]; omega)]
theorem dropS {l : List UInt8} {i : Nat} {b : UInt8} (hb : l[i]? = some b) : l.drop i = b :: l.drop (i + 1) := by
  obtain ⟨hi, he⟩ := List.getElem?_eq_some_iff.1 hb
  rw [List.drop_eq_getElem_cons hi, he]
theorem own_new9 (W : World) (x : ByteArray) : ∀ u ∈ txL x, u.oneCell' = true := txL_one x
/-- lines -/
def LnRel (w : World) (s : ByteArray) (o f i : Value) (wx : World) : Prop := ∃ (k fr : Nat) (P : List ByteArray), i = .int .i64 k ∧ f = .int .i64 fr ∧ k ≤ s.size ∧ fr ≤ k ∧ OwnF (fun b => w.heap.size ≤ b) txL 1 9 wx o P ∧ P.length ≤ k ∧ linesL (byL s) = P.map byL ++ lnG (((byL s).take k).drop fr) ((byL s).drop k) ∧ Below w.heap.size w wx
def LnSays (s : ByteArray) (w : World) (e : Ending) (w' : World) : Prop := ∃ v P, e = .returned v ∧ OwnT w.heap.size w' v P ∧ P.map byL = linesL (byL s) ∧ Below w.heap.size w w'
set_option maxHeartbeats 8000000 in
theorem rlines_c (s : ByteArray) (w : World) (hs : s.size ≤ 16777216) :
    Calls Tryd.prog 27 #[.string s] w fun e w' => LnSays s w e w' := by
  go_enter Tryd.func27, Tryd.ntmps27
  go_wp2
  go_loopw [3, 4, 5] (fun o f i wx => LnRel w s o f i wx) (fun _ _ i _ => s.size - (intOf i).toNat)
  case atStart => exact ⟨0, 0, [], rfl, rfl, Nat.zero_le _, Nat.le_refl _, OwnF.nil, Nat.le_refl _, rfl, Below.refl _ _⟩
  case round =>
    obtain ⟨k, fr, P, rfl, rfl, hks, hfk, hO, hPk, hL, hB⟩ := hrel
    have hBs := hB.size
    have HB := hidK hB
    have HO := hidK hO
    have HLL := hidK hL
    obtain ⟨so, sc, hs3, hsl⟩ := hO.form
    obtain ⟨pl, hpl⟩ : ∃ m, m = P.length := ⟨_, rfl⟩
    have HPL := hidK hpl
    rw [← hpl] at hs3 hPk
    subst hs3
    clear hO hL hB hpl hsl
    by_cases hk : k < s.size
    · have hidx := idx32 s k hk
      have hat := at32 s k hk
      obtain ⟨bb, hbb⟩ : ∃ b, b = s[k] := ⟨_, rfl⟩
      rw [← hbb] at hidx hat
      have HAT := hidK hat
      have HST := hidK (stepD hat hfk)
      have HDS := hidK (dropS hat)
      obtain ⟨B, hBn⟩ : ∃ B : Nat, B = bb.toNat := ⟨_, rfl⟩
      rw [← hBn] at hidx
      have HBN := hidK hBn
      clear hat hbb hBn
      by_cases h10 : B = 10
      · have HB10 : Hid (bb = 10) := by
          show _ = _
          have := HBN.out
          apply UInt8.toNat_inj.1; rw [← this, h10]; rfl
        subst h10
        obtain ⟨X, hX⟩ : ∃ X, X = byB (((byL s).take k).drop fr) := ⟨_, rfl⟩
        have hsl := sliceMid s fr k hfk hks
        rw [← hX] at hsl
        have HX := hidK hX
        clear hX
        go_wp2_with (refine wpG_one (F := fun b => w.heap.size ≤ b) elT rfl (.tmp 16) (.tmp 21) rfl (.slice so pl sc) P X #[.string X] rfl rfl rfl HO.out (txL_one X) (by have := HPL.out; omega) (fun b hb => Nat.le_trans hBs hb) ?_; intro v8 w8 o8 k8 n8)
        go_roundw
        case rel =>
          refine ⟨k + 1, k + 1, P ++ [X], by go_num, by go_num, by omega, Nat.le_refl _, o8, by rw [List.length_append, ← HPL.out]; simp only [List.length_cons, List.length_nil]; omega, ?_, HB.out.trans (k8.below (fun g hg => HO.out.2 g hg) hBs)⟩
          rw [HLL.out, HDS.out, HB10.out, lnG, if_pos rfl, List.map_append, List.append_assoc]
          congr 1
          rw [HX.out, List.map_cons, List.map_nil, byL_byB, List.cons_append, List.nil_append]
          congr 2
          rw [List.drop_eq_nil_of_le (by rw [List.length_take]; omega)]
        case measure => simp [intOf]; omega
      · have c1 : ((B : Int) == 10) = false := by simp; omega
        have HN10 : Hid (bb ≠ 10) := fun e => h10 (by rw [HBN.out, e]; rfl)
        clear h10
        go_wp2
        go_roundw
        case rel =>
          refine ⟨k + 1, fr, P, by go_num, rfl, by omega, by omega, HO.out, by rw [← HPL.out]; omega, ?_, HB.out⟩
          rw [HLL.out, HDS.out, lnG, if_neg HN10.out, HST.out]
        case measure => simp [intOf]; omega
    · obtain rfl : k = s.size := by omega
      have HE : Hid (linesL (byL s) = P.map byL ++ lnG ((byL s).drop fr) []) := by
        have := HLL.out
        have e1 : (byL s).take s.size = byL s := List.take_of_length_le (by rw [byL_size]; exact Nat.le_refl _)
        have e2 : (byL s).drop s.size = [] := List.drop_of_length_le (by rw [byL_size]; exact Nat.le_refl _)
        rw [e1, e2] at this
        exact this
      by_cases hf : fr < s.size
      · obtain ⟨X, hX⟩ : ∃ X, X = byB ((byL s).drop fr) := ⟨_, rfl⟩
        have hsl := sliceEnd s fr hfk
        rw [← hX] at hsl
        have HX := hidK hX
        have fI : (fr : Int) < (s.size : Int) := by omega
        clear hX
        go_wp2_with (refine wpG_one (F := fun b => w.heap.size ≤ b) elT rfl (.tmp 29) (.tmp 33) rfl (.slice so pl sc) P X #[.string X] rfl rfl rfl HO.out (txL_one X) (by have := HPL.out; omega) (fun b hb => Nat.le_trans hBs hb) ?_; intro v8 w8 o8 k8 n8)
        go_ret
        refine ⟨_, P ++ [X], rfl, o8.t, ?_, HB.out.trans (k8.below (fun g hg => HO.out.2 g hg) hBs)⟩
        rw [HE.out, lnG, if_neg, List.map_append, HX.out, List.map_cons, List.map_nil, byL_byB]
        intro e
        have := congrArg List.length e
        rw [List.length_drop, byL_size] at this
        simp at this; omega
      · have fI : ¬ ((fr : Int) < (s.size : Int)) := by omega
        go_wp2
        go_ret
        refine ⟨_, P, rfl, HO.out.t, ?_, HB.out⟩
        rw [HE.out, List.drop_of_length_le (by rw [byL_size]; omega), lnG, if_pos rfl, List.append_nil]
theorem parts_c (b : UInt8) (w : World) : Calls Tryd.prog 44 #[.int .u8 (b.toNat : Int)] w fun e w' => e = .returned (.bool (sepB b)) ∧ w' = w := by
  have HS : Hid (sepB b = decide (b.toNat = 32 ∨ b.toNat = 9 ∨ b.toNat = 13 ∨ b.toNat = 44)) := by
    have : ∀ x : Fin 256, sepB (UInt8.ofNat x.val) = decide (x.val = 32 ∨ x.val = 9 ∨ x.val = 13 ∨ x.val = 44) := by decide
    have := this ⟨b.toNat, b.toNat_lt⟩
    show _ = _
    simpa using this
  rw [HS.out]
  clear HS
  generalize b.toNat = n
  have all : n = 32 ∨ n = 9 ∨ n = 13 ∨ n = 44 ∨ (¬ n = 32 ∧ ¬ n = 9 ∧ ¬ n = 13 ∧ ¬ n = 44) := by omega
  rcases all with rfl | rfl | rfl | rfl | ⟨n1, n2, n3, n4⟩
  · go_enter Tryd.func44, Tryd.ntmps44
    go_wp2
    go_ret
    exact ⟨rfl, rfl⟩
  · go_enter Tryd.func44, Tryd.ntmps44
    go_wp2
    go_ret
    exact ⟨rfl, rfl⟩
  · go_enter Tryd.func44, Tryd.ntmps44
    go_wp2
    go_ret
    exact ⟨rfl, rfl⟩
  · go_enter Tryd.func44, Tryd.ntmps44
    go_wp2
    go_ret
    exact ⟨rfl, rfl⟩
  · have hd : decide (n = 32 ∨ n = 9 ∨ n = 13 ∨ n = 44) = false := decide_eq_false (by omega)
    rw [hd]
    have c1 : ((n : Int) == 32) = false := by simp; omega
    have c2 : ((n : Int) == 9) = false := by simp; omega
    have c3 : ((n : Int) == 13) = false := by simp; omega
    have c4 : ((n : Int) == 44) = false := by simp; omega
    clear n1 n2 n3 n4 hd
    go_enter Tryd.func44, Tryd.ntmps44
    go_wp2
    go_ret
    exact ⟨rfl, rfl⟩
/-- remark -/
def noRem (l : List UInt8) : Prop := ∀ b ∈ l, remB b = false
def RmRel (s : ByteArray) (i : Value) : Prop := ∃ k : Nat, k ≤ s.size ∧ i = .int .i64 k ∧ noRem ((byL s).take k)
set_option maxHeartbeats 4000000 in
theorem remark_c (s : ByteArray) (w : World) (hs : s.size ≤ 1099511627776) :
    Calls Tryd.prog 43 #[.string s] w fun e w' => (∃ k : Nat, e = .returned (.int .i64 k) ∧ k ≤ s.size ∧ noRem ((byL s).take k) ∧ (k = s.size ∨ ∃ b, (byL s)[k]? = some b ∧ remB b = true)) ∧ w' = w := by
  go_enter Tryd.func43, Tryd.ntmps43
  go_wp2
  go_loop [3] (fun i => RmRel s i) (fun i => s.size - (intOf i).toNat)
  case atStart => exact ⟨0, Nat.zero_le _, rfl, fun b hb => by simp at hb⟩
  case round =>
    obtain ⟨k, hks, rfl, hN⟩ := hrel
    have HN := hidK hN
    clear hN
    by_cases hk : k < s.size
    · have hidx := idx32 s k hk
      have hat := at32 s k hk
      obtain ⟨bb, hbb⟩ : ∃ b, b = s[k] := ⟨_, rfl⟩
      rw [← hbb] at hidx hat
      have HAT := hidK hat
      have HTK := hidK (takeSucc hat)
      have HS : Hid (remB bb = decide (bb.toNat = 42 ∨ bb.toNat = 59)) := by
        have : ∀ x : Fin 256, remB (UInt8.ofNat x.val) = decide (x.val = 42 ∨ x.val = 59) := by decide
        have := this ⟨bb.toNat, bb.toNat_lt⟩
        show _ = _
        simpa using this
      obtain ⟨B, hBn⟩ : ∃ B : Nat, B = bb.toNat := ⟨_, rfl⟩
      rw [← hBn] at hidx HS
      clear hat hbb hBn
      have all : B = 42 ∨ B = 59 ∨ (¬ B = 42 ∧ ¬ B = 59) := by omega
      rcases all with rfl | rfl | ⟨n1, n2⟩
      · go_wp2
        go_ret
        exact ⟨⟨k, rfl, hks, HN.out, .inr ⟨bb, HAT.out, by rw [HS.out]; rfl⟩⟩, rfl⟩
      · go_wp2
        go_ret
        exact ⟨⟨k, rfl, hks, HN.out, .inr ⟨bb, HAT.out, by rw [HS.out]; rfl⟩⟩, rfl⟩
      · have c1 : ((B : Int) == 42) = false := by simp; omega
        have c2 : ((B : Int) == 59) = false := by simp; omega
        have HF : Hid (remB bb = false) := by show _ = _; rw [HS.out]; exact decide_eq_false (by omega)
        clear n1 n2
        go_wp2
        go_roundw
        case rel =>
          refine ⟨k + 1, by omega, by go_num, ?_⟩
          rw [HTK.out]
          intro b hb
          rcases List.mem_append.1 hb with q | q
          · exact HN.out b q
          · simp at q; subst q; exact HF.out
        case measure => simp [intOf]; omega
    · obtain rfl : k = s.size := by omega
      go_wp2
      go_ret
      exact ⟨⟨s.size, rfl, Nat.le_refl _, HN.out, .inl rfl⟩, rfl⟩
theorem tok_cut {l : List UInt8} {k : Nat} {b : UInt8} (hb : l[k]? = some b) (hr : remB b = true) (hn : noRem (l.take k)) : tokL l = tokL (l.take k) := by
  have key : ∀ (x : List UInt8) (w : List UInt8) (r : List UInt8), tokG w (x ++ b :: r) = tokG w x := by
    intro x
    induction x with
    | nil => intro w r; rw [List.nil_append, tokG_rem w b r hr, tokG]
    | cons c x ih =>
      intro w r
      rw [List.cons_append, tokG, tokG]
      simp only [ih]
  have e : l = l.take k ++ b :: l.drop (k + 1) := by
    conv => lhs; rw [← List.take_append_drop k l]
    rw [dropS hb]
  unfold tokL
  conv => lhs; rw [e]
  exact key _ _ _
end Go.Proofs.YtdamhdceajmdfaaDoor
