-- Proof of the given statement about TextWords, second form. The frame follows the guide's toy for such a statement; the walk and the lemmas are ours.
import Derived.Test.YthdgkghefjnfgaaRows
import Derived.Test.YthdgkghefjnfgaaR4
import Derived.Test.YthdgkghefjnfgaaSame
import Derived.WalkKit
import Derived.ProofKit
import Derived.OpenShut
import Derived.ShutString
import Derived.JoinedCond
import Derived.Deep.RegionWith
namespace Go.Proofs.Ythdgkghefjnfgaa.textWords
open Go.ChangeShapes Go.WideShapes Go.ChangeAt Go.RowKit
open Go.ChangeMaps (open_string shut_string)
set_option linter.unusedVariables false

theorem own : ownKnob Try.prog.godebug = none := by kernel_rfl
theorem short {H : Type} {a0 : ByteArray} (hk : Rows.uptoSmall H [.lit (.string a0.data.toList)] = true) : a0.size ≤ 1048576 := by
  have h : Rows.uptoBulkAll [DataW.lit (H := H) (.string a0.data.toList)] ≤ 1048576 := of_decide_eq_true hk
  simp only [Rows.uptoBulkAll, Rows.uptoBulk] at h
  have e0 : a0.data.toList.length = a0.size := by rw [Array.length_toList]; rfl
  exact by omega
theorem scan_len (n : Nat) : ∀ (l : List UInt8) (pos : Nat) (q : Option Nat) (inn : Bool) (wd : List UInt8) (ws ws' : List ByteArray), l.length ≤ n → scanL l pos q inn wd ws = .inr ws' → ws'.length ≤ ws.length + l.length + 1 := by
  have he : ∀ (inn : Bool) (wd : List UInt8) (ws : List ByteArray), (endW inn wd ws).length ≤ ws.length + 1 := by
    intro inn wd ws; unfold endW; split
    · simp
    · omega
  induction n with
  | zero =>
    intro l pos q inn wd ws ws' hl h
    obtain rfl : l = [] := List.eq_nil_of_length_eq_zero (by omega)
    rw [scan_nil] at h
    cases q with
    | none => cases h; have := he inn wd ws; simp; omega
    | some p => cases h
  | succ n ih =>
    intro l pos q inn wd ws ws' hl h
    cases l with
    | nil =>
      rw [scan_nil] at h
      cases q with
      | none => cases h; have := he inn wd ws; simp; omega
      | some p => cases h
    | cons c r =>
      simp only [List.length_cons] at hl ⊢
      by_cases h1 : partsB c = true ∧ q = none
      · obtain ⟨hp, rfl⟩ := h1
        rw [scan_part _ _ _ _ _ hp] at h
        by_cases hr : r = []
        · subst hr
          rw [scan_nil] at h
          cases h
          have h3 := he inn wd ws
          show (endW inn wd ws).length ≤ _
          simp only [List.length_nil]; omega
        · have := ih _ _ _ _ _ _ _ (by omega) h
          have h2 := he inn wd ws
          omega
      · by_cases h2 : c = 92
        · subst h2
          cases e : escL r with
          | none => rw [scan_bad _ _ _ _ _ _ e] at h; cases h
          | some x =>
            obtain ⟨b, m⟩ := x
            rw [scan_esc _ _ _ _ _ _ b m e] at h
            have := ih _ _ _ _ _ _ _ (by simp; omega) h
            simp at this; omega
        · by_cases h3 : c = 34
          · subst h3
            rw [scan_quote] at h
            have := ih _ _ _ _ _ _ _ (by omega) h; omega
          · rw [scan_byte _ _ _ _ _ _ h1 h2 h3] at h
            have := ih _ _ _ _ _ _ _ (by omega) h; omega
theorem words_len (s : ByteArray) (ws : List ByteArray) (h : wordsL (lst s) = .inr ws) : ws.length ≤ s.size + 1 := by
  have := scan_len _ _ _ _ _ _ _ _ (Nat.le_refl _) h
  rw [lst_len] at this; simpa using this

theorem walk (a0 : ByteArray) (w0 : a0.size ≤ maxLen) (l0 : a0.size ≤ 1048576) (w : World) :
    Calls Try.prog 3 #[.string a0] w fun e w' => e = .returned (.bool true) ∧ Below w.heap.size w w' := by
  have HT : Hid (∀ w, Calls Try.prog 6 #[.string a0] w (WordsGave (wordsL (lst a0)) w)) := fun w => words_c a0 w (by omega)
  have HR : Hid (∀ w, Calls Try.prog 7 #[.string a0] w (WordsGave (wordsL (lst a0)) w)) := fun w => rwords_c a0 w (by omega)
  have HLEN : Hid (∀ ws, wordsL (lst a0) = .inr ws → ws.length ≤ 4194304) := fun ws h => by have := words_len a0 ws h; omega
  rcases hr : wordsL (lst a0) with ⟨p, c⟩ | ws
  · rw [hr] at HT HR
    clear w0 hr HLEN
    have HSM : Hid (∀ w, Calls Try.prog 8 #[.slice none 0 0, .slice none 0 0] w fun e w' => e = .returned (.bool (decide (([] : List ByteArray) = []))) ∧ ∃ n, w' = w.drewN n) := fun w => same_c _ _ [] [] w (.inl ⟨rfl, _, _, rfl⟩) (.inl ⟨rfl, _, _, rfl⟩) (by simp) (by simp)
    rw [decide_eq_true (rfl : ([] : List ByteArray) = [])] at HSM
    go_enter Try.func3, Try.ntmps3
    go_wp2_with (first
      | (go_at_call 6; refine (HT.out _).mono ?_; rintro e w1 ⟨hb1, hc0, hc9, rfl⟩)
      | (go_at_call 7; refine (HR.out _).mono ?_; rintro e w2 ⟨hb2, -, -, rfl⟩)
      | (go_at_call 9; refine (num_c _ _).mono ?_; rintro e w4 ⟨rfl, hw4⟩; subst w4)
      | (go_at_call 8; refine (HSM.out _).mono ?_; rintro e w3 ⟨rfl, n3, hw3⟩; subst w3))
    go_returns
    refine ⟨by simp, below_drewN (hb1.trans (hb2.mono hb1.size)) _⟩
  · rw [hr] at HT HR
    have hl := HLEN.out ws hr
    clear w0 hr HLEN
    go_enter Try.func3, Try.ntmps3
    go_wp2_with (first
      | (go_at_call 6; refine (HT.out _).mono ?_; rintro e w1 ⟨hb1, v1, rfl, ho1⟩)
      | (go_at_call 7; refine (HR.out _).mono ?_; rintro e w2 ⟨hb2, v2, rfl, ho2⟩; have ho1' := own_belowW ho1 hb2 hb1.size)
      | (go_at_call 9; refine (num_c _ _).mono ?_; rintro e w4 ⟨rfl, hw4⟩; subst w4)
      | (go_at_call 8; refine (same_c _ _ ws ws _ (RowS.of_own ho1') (RowS.of_own ho2) hl hl).mono ?_; rw [decide_eq_true (rfl : ws = ws)]; rintro e w3 ⟨rfl, n3, hw3⟩; subst w3))
    go_returns
    refine ⟨by simp, below_drewN (hb1.trans (hb2.mono hb1.size)) _⟩

theorem contract (H : Type) (enc : TypeId × Value → H) (W : World) (base : Nat) (args : Array Value) (ds gs : List (DataW H)) (before : List MemPlace)
    (hval : ∀ (j : Nat) t v, Try.f3.params[j]? = some t → args[j]? = some v → Value.okWide Try.prog W .any base t v)
    (hW : DataW.Whole enc Try.prog Try.f3.params.toList Rows.textWordsSpec.vars false W args.toList ds gs before) (hk : Rows.uptoSmall H (ds ++ gs) = true) :
    Calls Try.prog 3 args W fun e W' => ∃ v, e = .returned v ∧ Rows.textWordsSpec.post enc Try.prog Try.f3 false true false false W args v W' := by
  have hW' := hW
  obtain ⟨p, q, hA0, hV, rfl, hfz, hnd⟩ := hW
  have hA : DataW.TrodAll enc Try.prog W 0 (fun _ => true) true Try.f3.params.toList args.toList ds p := hA0
  rw [Try.params3] at hA hval
  obtain ⟨v0, vs0, d0, ds0, p0, q0, hargs, rfl, rfl, h0, r0⟩ := trodAll_cons hA
  obtain ⟨rfl, rfl, rfl⟩ := trodAll_nil r0
  obtain rfl : args = #[v0] := by cases args; simp_all
  obtain ⟨rfl, rfl⟩ := trodVars_none hV
  obtain ⟨a0, rfl, rfl, rfl, w0⟩ := open_string Try.underlying9 (hval 0 9 v0 rfl rfl) h0
  clear hA0
  simp only [List.append_nil] at hW' hk
  obtain l0 := short hk
  refine (walk a0 w0 l0 W).mono fun e W' ⟨he, hg⟩ => ?_
  subst he
  exact ⟨_, rfl, _, _, _, [], _, [], hW', trodAll_cons_mk (shut_bool Try.underlying4 _) trodAll_mk0, (trodAll_cons_mk (shut_string Try.underlying9 w0) trodAll_mk0), rfl, hg.frame _, fun h => by cases h⟩
set_option maxRecDepth 100000 in
theorem lifted (os : Os) (started : os.Started) (H : Type) (enc : TypeId × Value → H) (F : Stop.Interp) :
    ReturnsInHanded {} Try.checked os 3 .any ((Rows.OpenSpec.upto Rows.textWordsSpec).pre6 enc Try.prog Try.f3 Rows.textWordsUptoRow.domain false) (((Rows.OpenSpec.upto Rows.textWordsSpec).at F).post enc Try.prog Try.f3 false true false false) := by
  refine returnsInHanded_of_cond (C := Try.checked) (s := Rows.OpenSpec.upto Rows.textWordsSpec) (k := Rows.uptoSmall) rfl own started (by kernel_rfl) Try.func3
    (OpenSpec.witness (enc := enc) (C := Try.checked) (s := Rows.OpenSpec.upto Rows.textWordsSpec) (k := Rows.uptoSmall) rfl false ⟨#[], #[.string .empty], []⟩ 8 (by kernel_rfl) (by kernel_rfl) (by kernel_rfl)
      (x := ([.lit (.string [])], [], [])) (by kernel_rfl) rfl (by kernel_rfl)) ?_
  intro W base args ds gs before hval hW _ hk _
  exact contract H enc W base args ds gs before hval hW hk
theorem proved : Rows.TextWordsUptoSaid :=
  OpenClaim.holds_of_cond 3 Try.f3 rfl rfl rfl rfl rfl rfl rfl ⟨rfl, rfl, rfl, rfl, rfl⟩ rfl rfl rfl rfl rfl (by kernel_rfl) Try.func3 (by kernel_rfl)
    (of_decide_eq_true (by kernel_rfl)) (by unfold Func.isWrapper; first | (rw [if_pos (by decide +kernel)]; kernel_rfl) | (rw [if_neg (by decide +kernel)]; exact ⟨rfl, rfl⟩))
    (fun os started H enc _ F => lifted os started H enc F)
end Go.Proofs.Ythdgkghefjnfgaa.textWords
namespace Go.Proofs.Ythdgkghefjnfgaa
theorem textWords_holds : Rows.TextWordsUptoSaid := textWords.proved
#print axioms textWords_holds
end Go.Proofs.Ythdgkghefjnfgaa
