-- Proof of the given statement about TextPad, second form. The frame follows the guide's toy for such a statement; the walk and the lemmas are ours.
import Derived.Test.YthdgkghefjnfgaaRows
import Derived.Test.YthdgkghefjnfgaaPad
import Derived.WalkKit
import Derived.ProofKit
import Derived.OpenShut
import Derived.ShutString
import Derived.JoinedCond
import Derived.Deep.RegionWith
namespace Go.Proofs.Ythdgkghefjnfgaa.textPad
open Go.ChangeShapes Go.WideShapes Go.ChangeAt Go.RowKit
open Go.ChangeMaps (open_string shut_string)
set_option linter.unusedVariables false

theorem own : ownKnob Try.prog.godebug = none := by kernel_rfl
theorem short {H : Type} {a0 : ByteArray} {a1 : Int} (hk : Rows.uptoSmall H [.lit (.string a0.data.toList), .lit (.int .i64 a1)] = true) : a0.size ≤ 1048576 := by
  have h : Rows.uptoBulkAll [DataW.lit (H := H) (.string a0.data.toList), .lit (.int .i64 a1)] ≤ 1048576 := of_decide_eq_true hk
  simp only [Rows.uptoBulkAll, Rows.uptoBulk] at h
  have e0 : a0.data.toList.length = a0.size := by rw [Array.length_toList]; rfl
  exact by omega

theorem textRight_c (s : ByteArray) (n : Int) (w : World) (hm : s.size ≤ 1048576) (hn : -9223372036854775808 ≤ n ∧ n ≤ 9223372036854775807) :
    Calls Try.prog 13 #[.string s, .int .i64 n] w fun e w' => e = .returned (.string (spB (lackN s n) ++ s)) ∧ Below w.heap.size w w' := by
  have HP : Hid (∀ wx, Calls Try.prog 21 #[.string s, .int .i64 n] wx fun e w' => e = .returned (.string (spB (lackN s n))) ∧ Below wx.heap.size wx w') := fun wx => padding_c s n wx (by omega) hn
  have hps : (spB (lackN s n)).size ≤ 256 := by
    have := lack_le s n
    have e : (spB (lackN s n)).size = lackN s n := by simp [spB, strB, ByteArray.size]
    omega
  obtain ⟨p, hp⟩ : ∃ p, p = spB (lackN s n) := ⟨_, rfl⟩
  rw [← hp] at HP hps ⊢
  clear hp
  go_enter Try.func13, Try.ntmps13
  go_wp2_with (go_at_call 21; refine (HP.out _).mono ?_; rintro e w1 ⟨rfl, hb1⟩)
  go_ret
  exact ⟨rfl, hb1⟩
theorem textLeft_c (s : ByteArray) (n : Int) (w : World) (hm : s.size ≤ 1048576) (hn : -9223372036854775808 ≤ n ∧ n ≤ 9223372036854775807) :
    Calls Try.prog 14 #[.string s, .int .i64 n] w fun e w' => e = .returned (.string (s ++ spB (lackN s n))) ∧ Below w.heap.size w w' := by
  have HP : Hid (∀ wx, Calls Try.prog 21 #[.string s, .int .i64 n] wx fun e w' => e = .returned (.string (spB (lackN s n))) ∧ Below wx.heap.size wx w') := fun wx => padding_c s n wx (by omega) hn
  have hps : (spB (lackN s n)).size ≤ 256 := by
    have := lack_le s n
    have e : (spB (lackN s n)).size = lackN s n := by simp [spB, strB, ByteArray.size]
    omega
  obtain ⟨p, hp⟩ : ∃ p, p = spB (lackN s n) := ⟨_, rfl⟩
  rw [← hp] at HP hps ⊢
  clear hp
  go_enter Try.func14, Try.ntmps14
  go_wp2_with (go_at_call 21; refine (HP.out _).mono ?_; rintro e w1 ⟨rfl, hb1⟩)
  go_ret
  exact ⟨rfl, hb1⟩
theorem shelfref2Right_c (s : ByteArray) (n : Int) (w : World) (hm : s.size ≤ 1048576) (hn : -9223372036854775808 ≤ n ∧ n ≤ 9223372036854775807) :
    Calls Try.prog 15 #[.string s, .int .i64 n] w fun e w' => e = .returned (.string (spB (lackN s n) ++ s)) ∧ Below w.heap.size w w' := by
  have HP : Hid (∀ wx, Calls Try.prog 22 #[.string s, .int .i64 n] wx fun e w' => e = .returned (.string (spB (lackN s n))) ∧ Below wx.heap.size wx w') := fun wx => blanks_c s n wx (by omega) hn
  have hps : (spB (lackN s n)).size ≤ 256 := by
    have := lack_le s n
    have e : (spB (lackN s n)).size = lackN s n := by simp [spB, strB, ByteArray.size]
    omega
  obtain ⟨p, hp⟩ : ∃ p, p = spB (lackN s n) := ⟨_, rfl⟩
  rw [← hp] at HP hps ⊢
  clear hp
  go_enter Try.func15, Try.ntmps15
  go_wp2_with (go_at_call 22; refine (HP.out _).mono ?_; rintro e w1 ⟨rfl, hb1⟩)
  go_ret
  exact ⟨rfl, hb1⟩
theorem shelfref2Left_c (s : ByteArray) (n : Int) (w : World) (hm : s.size ≤ 1048576) (hn : -9223372036854775808 ≤ n ∧ n ≤ 9223372036854775807) :
    Calls Try.prog 16 #[.string s, .int .i64 n] w fun e w' => e = .returned (.string (s ++ spB (lackN s n))) ∧ Below w.heap.size w w' := by
  have HP : Hid (∀ wx, Calls Try.prog 22 #[.string s, .int .i64 n] wx fun e w' => e = .returned (.string (spB (lackN s n))) ∧ Below wx.heap.size wx w') := fun wx => blanks_c s n wx (by omega) hn
  have hps : (spB (lackN s n)).size ≤ 256 := by
    have := lack_le s n
    have e : (spB (lackN s n)).size = lackN s n := by simp [spB, strB, ByteArray.size]
    omega
  obtain ⟨p, hp⟩ : ∃ p, p = spB (lackN s n) := ⟨_, rfl⟩
  rw [← hp] at HP hps ⊢
  clear hp
  go_enter Try.func16, Try.ntmps16
  go_wp2_with (go_at_call 22; refine (HP.out _).mono ?_; rintro e w1 ⟨rfl, hb1⟩)
  go_ret
  exact ⟨rfl, hb1⟩
theorem walk (a0 : ByteArray) (a1 : Int) (w0 : a0.size ≤ maxLen) (w1 : (Lit.int .i64 a1).wf = true) (l0 : a0.size ≤ 1048576) (w : World) :
    Calls Try.prog 5 #[.string a0, .int .i64 a1] w fun e w' => e = .returned (.bool true) ∧ Below w.heap.size w w' := by
  have hn : -9223372036854775808 ≤ a1 ∧ a1 ≤ 9223372036854775807 := by
    have h := w1
    simp only [Lit.wf, Bool.and_eq_true, decide_eq_true_eq] at h
    have e1 : IntKind.i64.min = -9223372036854775808 := by decide
    have e2 : IntKind.i64.max = 9223372036854775807 := by decide
    rw [e1, e2] at h
    exact h
  have H1 : Hid (∀ wx, Calls Try.prog 13 #[.string a0, .int .i64 a1] wx fun e w' => e = .returned (.string (spB (lackN a0 a1) ++ a0)) ∧ Below wx.heap.size wx w') := fun wx => textRight_c a0 a1 wx l0 hn
  have H2 : Hid (∀ wx, Calls Try.prog 14 #[.string a0, .int .i64 a1] wx fun e w' => e = .returned (.string (a0 ++ spB (lackN a0 a1))) ∧ Below wx.heap.size wx w') := fun wx => textLeft_c a0 a1 wx l0 hn
  have H3 : Hid (∀ wx, Calls Try.prog 15 #[.string a0, .int .i64 a1] wx fun e w' => e = .returned (.string (spB (lackN a0 a1) ++ a0)) ∧ Below wx.heap.size wx w') := fun wx => shelfref2Right_c a0 a1 wx l0 hn
  have H4 : Hid (∀ wx, Calls Try.prog 16 #[.string a0, .int .i64 a1] wx fun e w' => e = .returned (.string (a0 ++ spB (lackN a0 a1))) ∧ Below wx.heap.size wx w') := fun wx => shelfref2Left_c a0 a1 wx l0 hn
  obtain ⟨r, hr⟩ : ∃ r, r = spB (lackN a0 a1) ++ a0 := ⟨_, rfl⟩
  obtain ⟨l, hl⟩ : ∃ l, l = a0 ++ spB (lackN a0 a1) := ⟨_, rfl⟩
  rw [← hr] at H1 H3
  rw [← hl] at H2 H4
  clear hr hl hn w0 w1
  go_enter Try.func5, Try.ntmps5
  go_wp2_with (first
    | (go_at_call 13; refine (H1.out _).mono ?_; rintro e w1 ⟨rfl, hb1⟩)
    | (go_at_call 14; refine (H2.out _).mono ?_; rintro e w2 ⟨rfl, hb2⟩)
    | (go_at_call 15; refine (H3.out _).mono ?_; rintro e w3 ⟨rfl, hb3⟩)
    | (go_at_call 16; refine (H4.out _).mono ?_; rintro e w4 ⟨rfl, hb4⟩))
  go_returns
  have s1 := hb1.size
  have s2 := hb2.size
  have s3 := hb3.size
  exact ⟨rfl, ((hb1.trans (hb2.mono (by omega))).trans (hb3.mono (by omega))).trans (hb4.mono (by omega))⟩

theorem contract (H : Type) (enc : TypeId × Value → H) (W : World) (base : Nat) (args : Array Value) (ds gs : List (DataW H)) (before : List MemPlace)
    (hval : ∀ (j : Nat) t v, Try.f5.params[j]? = some t → args[j]? = some v → Value.okWide Try.prog W .any base t v)
    (hW : DataW.Whole enc Try.prog Try.f5.params.toList Rows.textPadSpec.vars false W args.toList ds gs before) (hk : Rows.uptoSmall H (ds ++ gs) = true) :
    Calls Try.prog 5 args W fun e W' => ∃ v, e = .returned v ∧ Rows.textPadSpec.post enc Try.prog Try.f5 false true false false W args v W' := by
  have hW' := hW
  obtain ⟨p, q, hA0, hV, rfl, hfz, hnd⟩ := hW
  have hA : DataW.TrodAll enc Try.prog W 0 (fun _ => true) true Try.f5.params.toList args.toList ds p := hA0
  rw [Try.params5] at hA hval
  obtain ⟨v0, vs0, d0, ds0, p0, q0, hargs, rfl, rfl, h0, r0⟩ := trodAll_cons hA
  obtain ⟨v1, vs1, d1, ds1, p1, q1, rfl, rfl, rfl, h1, r1⟩ := trodAll_cons r0
  obtain ⟨rfl, rfl, rfl⟩ := trodAll_nil r1
  obtain rfl : args = #[v0, v1] := by cases args; simp_all
  obtain ⟨rfl, rfl⟩ := trodVars_none hV
  obtain ⟨a0, rfl, rfl, rfl, w0⟩ := open_string Try.underlying9 (hval 0 9 v0 rfl rfl) h0
  obtain ⟨a1, rfl, rfl, rfl, w1⟩ := open_int Try.underlying3 (hval 1 3 v1 rfl rfl) h1
  clear hA0
  simp only [List.append_nil] at hW' hk
  obtain l0 := short hk
  refine (walk a0 a1 w0 w1 l0 W).mono fun e W' ⟨he, hg⟩ => ?_
  subst he
  exact ⟨_, rfl, _, _, _, [], _, [], hW', trodAll_cons_mk (shut_bool Try.underlying4 _) trodAll_mk0, (trodAll_cons_mk (shut_string Try.underlying9 w0) (trodAll_cons_mk (shut_int Try.underlying3 w1) trodAll_mk0)), rfl, hg.frame _, fun h => by cases h⟩
set_option maxRecDepth 100000 in
theorem lifted (os : Os) (started : os.Started) (H : Type) (enc : TypeId × Value → H) (F : Stop.Interp) :
    ReturnsInHanded {} Try.checked os 5 .any ((Rows.OpenSpec.upto Rows.textPadSpec).pre6 enc Try.prog Try.f5 Rows.textPadUptoRow.domain false) (((Rows.OpenSpec.upto Rows.textPadSpec).at F).post enc Try.prog Try.f5 false true false false) := by
  refine returnsInHanded_of_cond (C := Try.checked) (s := Rows.OpenSpec.upto Rows.textPadSpec) (k := Rows.uptoSmall) rfl own started (by kernel_rfl) Try.func5
    (OpenSpec.witness (enc := enc) (C := Try.checked) (s := Rows.OpenSpec.upto Rows.textPadSpec) (k := Rows.uptoSmall) rfl false ⟨#[], #[.string .empty, .int .i64 0], []⟩ 8 (by kernel_rfl) (by kernel_rfl) (by kernel_rfl)
      (x := ([.lit (.string []), .lit (.int .i64 0)], [], [])) (by kernel_rfl) rfl (by kernel_rfl)) ?_
  intro W base args ds gs before hval hW _ hk _
  exact contract H enc W base args ds gs before hval hW hk
theorem proved : Rows.TextPadUptoSaid :=
  OpenClaim.holds_of_cond 5 Try.f5 rfl rfl rfl rfl rfl rfl rfl ⟨rfl, rfl, rfl, rfl, rfl⟩ rfl rfl rfl rfl rfl (by kernel_rfl) Try.func5 (by kernel_rfl)
    (of_decide_eq_true (by kernel_rfl)) (by unfold Func.isWrapper; first | (rw [if_pos (by decide +kernel)]; kernel_rfl) | (rw [if_neg (by decide +kernel)]; exact ⟨rfl, rfl⟩))
    (fun os started H enc _ F => lifted os started H enc F)
end Go.Proofs.Ythdgkghefjnfgaa.textPad
namespace Go.Proofs.Ythdgkghefjnfgaa
theorem textPad_holds : Rows.TextPadUptoSaid := textPad.proved
#print axioms textPad_holds
end Go.Proofs.Ythdgkghefjnfgaa
