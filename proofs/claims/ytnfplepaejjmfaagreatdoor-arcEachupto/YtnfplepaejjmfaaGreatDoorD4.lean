
-- names.read, Read: contracts.
import Derived.Test.YtnfplepaejjmfaaGreatDoorD2
import Derived.Test.YtnfplepaejjmfaaGreatDoorD3
import Derived.Laws.CopyOwn
namespace Go.Proofs.YtnfplepaejjmfaaGreatDoor
open Go.ChangeShapes Go.WideShapes Go.ChangeAt Go.RowKit
set_option linter.unusedVariables false
set_option maxRecDepth 100000

theorem ne_litD (s : ByteArray) (l : List UInt8) (h : ¬ s.data.toList = l) : (s.toList == l) = false := by
  rw [Lib.toList_data]; simpa using h
def saidRest (l : List UInt8) : Value :=
  if validL l = true then .iface 159 (.string (strL l))
  else if Lib.hasSuffix l [47] = true ∧ validL (Lib.trimSuffix l [47]) = true then .iface 162 (.string (strL (Lib.trimSuffix l [47])))
  else if (numAfter [47] l).isSome = true then .iface 165 (.int .i64 ((numAfter [47] l).getD 0 : Nat))
  else if (numAfter [35, 49, 47] l).isSome = true then .iface 166 (.int .i64 ((numAfter [35, 49, 47] l).getD 0 : Nat))
  else .nilIface
theorem pread_47 (w : World) : Calls Tryz.prog 60 #[.string ⟨#[47]⟩] w fun e w' => e = .returned (.iface 158 (.int .i64 1)) ∧ w' = w := by
  go_enter Tryz.func60, Tryz.ntmps60
  go_wp2
  go_ret
  exact ⟨rfl, rfl⟩
theorem pread_SYM64 (w : World) : Calls Tryz.prog 60 #[.string ⟨#[47, 83, 89, 77, 54, 52, 47]⟩] w fun e w' => e = .returned (.iface 158 (.int .i64 2)) ∧ w' = w := by
  go_enter Tryz.func60, Tryz.ntmps60
  go_wp2
  go_ret
  exact ⟨rfl, rfl⟩
theorem pread_slashes (w : World) : Calls Tryz.prog 60 #[.string ⟨#[47, 47]⟩] w fun e w' => e = .returned (.iface 158 (.int .i64 3)) ∧ w' = w := by
  go_enter Tryz.func60, Tryz.ntmps60
  go_wp2
  go_ret
  exact ⟨rfl, rfl⟩
theorem pread_SYMDEF (w : World) : Calls Tryz.prog 60 #[.string ⟨#[95, 95, 46, 83, 89, 77, 68, 69, 70]⟩] w fun e w' => e = .returned (.iface 158 (.int .i64 8)) ∧ w' = w := by
  go_enter Tryz.func60, Tryz.ntmps60
  go_wp2
  go_ret
  exact ⟨rfl, rfl⟩
theorem pread_rest (s : ByteArray) (w : World) (hs : s.size ≤ maxLen) (h1 : ¬ s.data.toList = [47]) (h2 : ¬ s.data.toList = fSYM64) (h3 : ¬ s.data.toList = [47, 47]) (h4 : ¬ s.data.toList = fSYMDEF) :
    Calls Tryz.prog 60 #[.string s] w fun e w' => e = .returned (saidRest s.data.toList) ∧ w' = w := by
  have e1 := ne_litD s _ h1
  have e2 := ne_litD s _ h2
  have e3 := ne_litD s _ h3
  have e4 := ne_litD s _ h4
  unfold fSYM64 at e2
  unfold fSYMDEF at e4
  have g1 : ¬ s.toList = [47] := by simpa using e1
  have g2 : ¬ s.toList = [47, 83, 89, 77, 54, 52, 47] := by simpa using e2
  have g3 : ¬ s.toList = [47, 47] := by simpa using e3
  have g4 : ¬ s.toList = [95, 95, 46, 83, 89, 77, 68, 69, 70] := by simpa using e4
  have HV : Hid (∀ (g : ByteArray) (w : World), Calls Tryz.prog 84 #[.string g] w fun e w' => e = .returned (.bool (validL g.data.toList)) ∧ w' = w) := fun g w => pvalid_c g w
  have HC : Hid (∀ w, Calls Tryz.prog 85 #[.string s, .string ⟨#[47]⟩] w fun e w' => e = .returned (.tuple #[.string (strL (Lib.trimSuffix s.data.toList [47])), .bool (Lib.hasSuffix s.data.toList [47])]) ∧ w' = w) := fun w => Tryz.strings_CutSuffix s ⟨#[47]⟩ w (by unfold maxLen at hs; omega)
  have HN : Hid (∀ (m : ByteArray) (w : World), Calls Tryz.prog 86 #[.string s, .string m] w fun e w' => e = .returned (.tuple #[.int .i64 ((numAfter m.data.toList s.data.toList).getD 0 : Nat), .bool (numAfter m.data.toList s.data.toList).isSome]) ∧ w' = w) := fun m w => rnum_c s m w hs
  have hb := strL_data (Lib.trimSuffix s.data.toList [47])
  unfold saidRest
  rw [strL_of]
  clear hs h1 h2 h3 h4
  generalize Lib.trimSuffix s.data.toList [47] = tl at *
  cases hv : validL s.data.toList
  rotate_left
  · go_enter Tryz.func60, Tryz.ntmps60
    go_wp2_with (first | (go_at_call 84; refine (HV.out _ _).mono ?_; rintro e w1 ⟨rfl, hw1⟩; subst w1))
    go_ret
    exact ⟨rfl, rfl⟩
  cases hsf : Lib.hasSuffix s.data.toList [47]
  · rw [hsf] at HC
    cases hn1 : (numAfter [47] s.data.toList).isSome
    · cases hn2 : (numAfter [35, 49, 47] s.data.toList).isSome
      · go_enter Tryz.func60, Tryz.ntmps60
        go_wp2_with (first | (go_at_call 84; refine (HV.out _ _).mono ?_; rintro e w1 ⟨rfl, hw1⟩; subst w1) | (go_at_call 85; refine (HC.out _).mono ?_; rintro e w1 ⟨rfl, hw1⟩; subst w1) | (go_at_call 86; refine (HN.out _ _).mono ?_; rintro e w1 ⟨rfl, hw1⟩; subst w1))
        go_ret
        exact ⟨rfl, rfl⟩
      · go_enter Tryz.func60, Tryz.ntmps60
        go_wp2_with (first | (go_at_call 84; refine (HV.out _ _).mono ?_; rintro e w1 ⟨rfl, hw1⟩; subst w1) | (go_at_call 85; refine (HC.out _).mono ?_; rintro e w1 ⟨rfl, hw1⟩; subst w1) | (go_at_call 86; refine (HN.out _ _).mono ?_; rintro e w1 ⟨rfl, hw1⟩; subst w1))
        go_ret
        exact ⟨rfl, rfl⟩
    · go_enter Tryz.func60, Tryz.ntmps60
      go_wp2_with (first | (go_at_call 84; refine (HV.out _ _).mono ?_; rintro e w1 ⟨rfl, hw1⟩; subst w1) | (go_at_call 85; refine (HC.out _).mono ?_; rintro e w1 ⟨rfl, hw1⟩; subst w1) | (go_at_call 86; refine (HN.out _ _).mono ?_; rintro e w1 ⟨rfl, hw1⟩; subst w1))
      go_ret
      exact ⟨rfl, rfl⟩
  · rw [hsf] at HC
    cases hvt : validL tl
    · have hvb : validL (strL tl).data.toList = false := by rw [hb]; exact hvt
      cases hn1 : (numAfter [47] s.data.toList).isSome
      · cases hn2 : (numAfter [35, 49, 47] s.data.toList).isSome
        · go_enter Tryz.func60, Tryz.ntmps60
          go_wp2_with (first | (go_at_call 84; refine (HV.out _ _).mono ?_; rintro e w1 ⟨rfl, hw1⟩; subst w1) | (go_at_call 85; refine (HC.out _).mono ?_; rintro e w1 ⟨rfl, hw1⟩; subst w1) | (go_at_call 86; refine (HN.out _ _).mono ?_; rintro e w1 ⟨rfl, hw1⟩; subst w1))
          go_ret
          exact ⟨rfl, rfl⟩
        · go_enter Tryz.func60, Tryz.ntmps60
          go_wp2_with (first | (go_at_call 84; refine (HV.out _ _).mono ?_; rintro e w1 ⟨rfl, hw1⟩; subst w1) | (go_at_call 85; refine (HC.out _).mono ?_; rintro e w1 ⟨rfl, hw1⟩; subst w1) | (go_at_call 86; refine (HN.out _ _).mono ?_; rintro e w1 ⟨rfl, hw1⟩; subst w1))
          go_ret
          exact ⟨rfl, rfl⟩
      · go_enter Tryz.func60, Tryz.ntmps60
        go_wp2_with (first | (go_at_call 84; refine (HV.out _ _).mono ?_; rintro e w1 ⟨rfl, hw1⟩; subst w1) | (go_at_call 85; refine (HC.out _).mono ?_; rintro e w1 ⟨rfl, hw1⟩; subst w1) | (go_at_call 86; refine (HN.out _ _).mono ?_; rintro e w1 ⟨rfl, hw1⟩; subst w1))
        go_ret
        exact ⟨rfl, rfl⟩
    · have hvb : validL (strL tl).data.toList = true := by rw [hb]; exact hvt
      go_enter Tryz.func60, Tryz.ntmps60
      go_wp2_with (first | (go_at_call 84; refine (HV.out _ _).mono ?_; rintro e w1 ⟨rfl, hw1⟩; subst w1) | (go_at_call 85; refine (HC.out _).mono ?_; rintro e w1 ⟨rfl, hw1⟩; subst w1) | (go_at_call 86; refine (HN.out _ _).mono ?_; rintro e w1 ⟨rfl, hw1⟩; subst w1))
      go_ret
      exact ⟨rfl, rfl⟩
theorem pRead_some (s : ByteArray) (v : Value) (f : Fl) (w : World) (hs : s.size ≤ 16) (HR : Hid (∀ w, Calls Tryz.prog 60 #[.string s] w fun e w' => e = .returned v ∧ w' = w))
    (HT : Hid (∀ w, Calls Tryz.prog 61 #[v] w fun e w' => e = .returned (flV f) ∧ Below w.heap.size w w')) (hg : ∀ w, (eqGuard .eql 125 (.tmp 11) (.const .nilIface) v .nilIface).run Tryz.prog w = .ok () w) (hn : ∀ w, (binOp .eql 125 v .nilIface).run Tryz.prog w = .ok (.bool false) w) :
    Calls Tryz.prog 36 #[.string s] w fun e w' => e = .returned (.tuple #[flV f, .int .i64 0]) ∧ Below w.heap.size w w' := by
  have c16 : decide ((16 : Int) < (s.size : Int)) = false := by simp; omega
  have hsi : (s.size : Int) ≤ 16 := by omega
  obtain ⟨so, nu, na⟩ := f
  have HT' : Hid (∀ w, Calls Tryz.prog 61 #[v] w fun e w' => e = .returned (.agg #[.int .i64 so, .int .i64 nu, .string na]) ∧ Below w.heap.size w w') := HT
  clear HT
  go_enter Tryz.func36, Tryz.ntmps36
  go_wp2_with (first | (go_at_call 60; refine (HR.out _).mono ?_; rintro e w1 ⟨rfl, hw1⟩; subst w1) | (go_at_call 61; refine (HT'.out _).mono ?_; rintro e w1 ⟨rfl, hw1⟩; have hr := (hw1.block w.heap.size (by simp)).trans (heap_alloc_new _ _)) | refine wpList_store_row rfl _ _ _ rfl w.heap.size #[.int .i64 so, .int .i64 nu, .string na] rfl rfl _ _ hr rfl (by kernel_rfl) (by kernel_rfl) ?_)
  exact bodyPost_ret (results_cell_tmp_row rfl _ _ w.heap.size _ _ _ _ _ rfl rfl (setRow_heap _ _ _ _ _ _ hr) Tryz.underlying84 rfl (by kernel_rfl)) rfl ⟨rfl, below_setRow ((bup (Below.refl _ _) _).trans (hw1.mono (by simp))) (Nat.le_refl _) _⟩
theorem pRead_long (s : ByteArray) (w : World) (hs : s.size ≤ maxLen) (h : 16 < s.size) :
    Calls Tryz.prog 36 #[.string s] w fun e w' => e = .returned (.tuple #[flV fl0, .int .i64 80]) ∧ Below w.heap.size w w' := by
  unfold maxLen at hs
  have c16 : decide ((16 : Int) < (s.size : Int)) = true := by simp; omega
  have hsi : ((16 : Int) < (s.size : Int)) := by omega
  go_enter Tryz.func36, Tryz.ntmps36
  go_wp2
  exact bodyPost_ret (results_cell_tmp_row rfl _ _ w.heap.size _ _ _ _ _ rfl rfl (heap_alloc_new _ _) Tryz.underlying84 rfl (by kernel_rfl)) rfl ⟨rfl, bup (Below.refl _ _) _⟩
theorem pRead_nil (s : ByteArray) (w : World) (hs : s.size ≤ 16) (HR : Hid (∀ w, Calls Tryz.prog 60 #[.string s] w fun e w' => e = .returned .nilIface ∧ w' = w)) :
    Calls Tryz.prog 36 #[.string s] w fun e w' => e = .returned (.tuple #[flV fl0, .int .i64 80]) ∧ Below w.heap.size w w' := by
  have c16 : decide ((16 : Int) < (s.size : Int)) = false := by simp; omega
  have hsi : (s.size : Int) ≤ 16 := by omega
  go_enter Tryz.func36, Tryz.ntmps36
  go_wp2_with (first | (go_at_call 60; refine (HR.out _).mono ?_; rintro e w1 ⟨rfl, hw1⟩; subst w1))
  exact bodyPost_ret (results_cell_tmp_row rfl _ _ w.heap.size _ _ _ _ _ rfl rfl (heap_alloc_new _ _) Tryz.underlying84 rfl (by kernel_rfl)) rfl ⟨rfl, bup (Below.refl _ _) _⟩
theorem hg_special (x : Value) (w : World) : (eqGuard .eql 125 (.tmp 11) (.const .nilIface) (.iface 158 x) .nilIface).run Tryz.prog w = .ok () w := by kernel_rfl
theorem hn_special (x : Value) (w : World) : (binOp .eql 125 (.iface 158 x) .nilIface).run Tryz.prog w = .ok (.bool false) w := by kernel_rfl
theorem hg_short (x : Value) (w : World) : (eqGuard .eql 125 (.tmp 11) (.const .nilIface) (.iface 162 x) .nilIface).run Tryz.prog w = .ok () w := by kernel_rfl
theorem hn_short (x : Value) (w : World) : (binOp .eql 125 (.iface 162 x) .nilIface).run Tryz.prog w = .ok (.bool false) w := by kernel_rfl
theorem hg_plain (x : Value) (w : World) : (eqGuard .eql 125 (.tmp 11) (.const .nilIface) (.iface 159 x) .nilIface).run Tryz.prog w = .ok () w := by kernel_rfl
theorem hn_plain (x : Value) (w : World) : (binOp .eql 125 (.iface 159 x) .nilIface).run Tryz.prog w = .ok (.bool false) w := by kernel_rfl
theorem hg_ref (x : Value) (w : World) : (eqGuard .eql 125 (.tmp 11) (.const .nilIface) (.iface 165 x) .nilIface).run Tryz.prog w = .ok () w := by kernel_rfl
theorem hn_ref (x : Value) (w : World) : (binOp .eql 125 (.iface 165 x) .nilIface).run Tryz.prog w = .ok (.bool false) w := by kernel_rfl
theorem hg_long (x : Value) (w : World) : (eqGuard .eql 125 (.tmp 11) (.const .nilIface) (.iface 166 x) .nilIface).run Tryz.prog w = .ok () w := by kernel_rfl
theorem hn_long (x : Value) (w : World) : (binOp .eql 125 (.iface 166 x) .nilIface).run Tryz.prog w = .ok (.bool false) w := by kernel_rfl
theorem pread_c (s : ByteArray) (w : World) (hs : s.size ≤ maxLen) :
    Calls Tryz.prog 36 #[.string s] w fun e w' => e = .returned (.tuple #[flV (readL s.data.toList).1, .int .i64 (readL s.data.toList).2]) ∧ Below w.heap.size w w' := by
  have hl : s.data.toList.length = s.size := by simp
  unfold readL
  by_cases h16 : 16 < s.size
  · rw [if_pos (by omega)]; exact pRead_long s w hs h16
  rw [if_neg (by omega)]
  have lit : ∀ l : List UInt8, s.data.toList = l → s = ⟨l.toArray⟩ := fun l h => by rw [← strL_of s, h]; rfl
  by_cases h1 : s.data.toList = [47]
  · rw [if_pos h1, lit _ h1]
    exact pRead_some _ _ _ w (by decide) (fun w => pread_47 w) (fun w => tell_special 1 w) (hg_special _) (hn_special _)
  rw [if_neg h1]
  by_cases h2 : s.data.toList = fSYM64
  · rw [if_pos h2, lit _ h2]
    exact pRead_some _ _ _ w (by decide) (fun w => pread_SYM64 w) (fun w => tell_special 2 w) (hg_special _) (hn_special _)
  rw [if_neg h2]
  by_cases h3 : s.data.toList = [47, 47]
  · rw [if_pos h3, lit _ h3]
    exact pRead_some _ _ _ w (by decide) (fun w => pread_slashes w) (fun w => tell_special 3 w) (hg_special _) (hn_special _)
  rw [if_neg h3]
  by_cases h4 : s.data.toList = fSYMDEF
  · rw [if_pos h4, lit _ h4]
    exact pRead_some _ _ _ w (by decide) (fun w => pread_SYMDEF w) (fun w => tell_special 8 w) (hg_special _) (hn_special _)
  rw [if_neg h4]
  rw [← readQ_rest _ (by omega)]
  have HR := fun w => pread_rest s w hs h1 h2 h3 h4
  unfold saidRest at HR
  unfold readQ
  by_cases c1 : validL s.data.toList = true
  · rw [if_pos c1] at HR ⊢
    exact pRead_some _ _ _ w (by omega) HR (fun w => tell_plain _ w) (hg_plain _) (hn_plain _)
  rw [if_neg c1] at HR ⊢
  by_cases c2 : Lib.hasSuffix s.data.toList [47] = true ∧ validL (Lib.trimSuffix s.data.toList [47]) = true
  · rw [if_pos c2] at HR ⊢
    exact pRead_some _ _ _ w (by omega) HR (fun w => tell_short _ w) (hg_short _) (hn_short _)
  rw [if_neg c2] at HR ⊢
  by_cases c3 : (numAfter [47] s.data.toList).isSome = true
  · rw [if_pos c3] at HR ⊢
    exact pRead_some _ _ _ w (by omega) HR (fun w => tell_ref _ w) (hg_ref _) (hn_ref _)
  rw [if_neg c3] at HR ⊢
  by_cases c4 : (numAfter [35, 49, 47] s.data.toList).isSome = true
  · rw [if_pos c4] at HR ⊢
    exact pRead_some _ _ _ w (by omega) HR (fun w => tell_long _ w) (hg_long _) (hn_long _)
  rw [if_neg c4] at HR ⊢
  exact pRead_nil s w (by omega) HR
end Go.Proofs.YtnfplepaejjmfaaGreatDoor
