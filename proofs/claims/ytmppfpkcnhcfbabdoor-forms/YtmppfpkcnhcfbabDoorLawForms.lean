
-- Proof of the given card about NamesForms, second form. The frame follows the guide's toy for a law over a table; the walk and the lemmas are ours.
import Derived.Test.YtmppfpkcnhcfbabDoorCards
import Derived.Test.YtmppfpkcnhcfbabDoorTie
import Derived.Test.YtmppfpkcnhcfbabDoorG2
import Derived.WalkKit
import Derived.ProofKit
import Derived.OpenShut
import Derived.ShutString
import Derived.ChangeOld
import Derived.Below
import Derived.Deep.DeepHandedRow
import Derived.Stop.LaidErr
import Derived.BigRegion
import Derived.RegionTactic
import Derived.Shelf.Vars
namespace Go.Proofs.YtmppfpkcnhcfbabDoor.namesForms
open Go.ChangeShapes Go.WideShapes Go.ChangeAt Go.RowKit
open Go.ChangeMaps (open_string shut_string)
set_option linter.unusedVariables false
set_option maxRecDepth 100000

theorem own : ownKnob Tryd.prog.godebug = none := by kernel_rfl
theorem laidOut : laidOutB Tryd.prog = true := by kernel_rfl
theorem laid_is {W : World} (h : laidMetH Tryd.prog Rows.namesFormsUptoRow.laid W) : laidMet Tryd.prog [("math/bits.deBruijn32tab", Rows.laid_math_bits_deBruijn32tab), ("math/bits.deBruijn64tab", Rows.laid_math_bits_deBruijn64tab), ("internal/strconv.uint64pow10", Rows.laid_internal_strconv_uint64pow10)] W := h
theorem tabs_of {W : World} (h : laidMetH Tryd.prog Rows.namesFormsUptoRow.laid W) : Tabs W := tabs_of_heads (laid_is h).tail (laid_is h).tail.tail
theorem bulk_mem {H : Type} : ∀ (l : List (DataW H)) (d : DataW H), d ∈ l → Rows.uptoBulk d ≤ Rows.uptoBulkAll l
  | [], d, h => by cases h
  | x :: r, d, h => by
    simp only [Rows.uptoBulkAll]
    rcases List.mem_cons.1 h with rfl | h
    · omega
    · have := bulk_mem r d h; omega

theorem walk (w : World) (a0 : ByteArray) (w0 : a0.size ≤ maxLen) (l0 : a0.size ≤ 1048576) (a1 : Int) (w1 : (Lit.int .i64 a1).wf = true) (a2 : Int) (w2 : (Lit.int .i64 a2).wf = true) (hT : Tabs w) :
    Calls Tryd.prog 4 #[.string a0, .int .i64 a1, .int .i64 a2] w fun e w' => e = .returned (.bool true) ∧ Below w.heap.size w w' := by
  have hb0 : Below w.heap.size w w := Below.refl _ _
  have HT : Hid (∀ (s : ByteArray) (so v : Int) (n : ByteArray) (w' : World), ToldS s so v n → Below w.heap.size w w' → Calls Tryd.prog 12 #[.string s, .int .i64 so, .int .i64 v, .string n] w' fun e w'' => e = .returned (.bool true) ∧ Below w.heap.size w w'') := fun s so v n w' h hb => (told_c s so v n w' h.1 h.2).mono fun e w'' ⟨he, hb2⟩ => ⟨he, bel3 hb hb2⟩
  have T1 : ToldS ⟨#[47]⟩ 1 0 ⟨#[]⟩ := ⟨by decide, told_1⟩
  have T2 : ToldS ⟨#[47, 83, 89, 77, 54, 52, 47]⟩ 2 0 ⟨#[]⟩ := ⟨by decide, told_2⟩
  have T3 : ToldS ⟨#[47, 47]⟩ 3 0 ⟨#[]⟩ := ⟨by decide, told_3⟩
  have T8 : ToldS ⟨#[95, 95, 46, 83, 89, 77, 68, 69, 70]⟩ 8 0 ⟨#[]⟩ := ⟨by decide, told_8⟩
  have HZ : Hid (∀ w, Calls Tryd.prog 13 #[.int .i64 a2] w fun e w' => e = .returned (.string (strL (List.replicate (clamp16 a2) 48))) ∧ w' = w) := fun w => zeros_c a2 w
  have HV : Hid (∀ w, Calls Tryd.prog 15 #[.string a0] w fun e w' => e = .returned (.bool (validL a0.data.toList)) ∧ w' = w) := fun w => pvalid_c a0 w
  have HL : Hid (∀ w, Calls Tryd.prog 16 #[.string a0] w fun e w' => e = .returned (.bool (validL a0.data.toList)) ∧ w' = w) := fun w => lvalid_c a0 w w0
  have hn4 : validL a0.data.toList = true → ToldS (a0 ++ ⟨#[47]⟩) 4 0 a0 := fun hv => by
    refine ⟨by rw [ByteArray.size_append]; show a0.size + 1 ≤ maxLen; unfold maxLen; omega, ?_⟩
    have := told_4 a0.data.toList hv
    rw [strL_of] at this
    have e : (a0 ++ ⟨#[47]⟩ : ByteArray).data.toList = a0.data.toList ++ [47] := by simp
    rw [e]; exact this
  have hn6 : validL a0.data.toList = true → ¬ a0.data.toList = fSYMDEF → ToldS a0 6 0 a0 := fun hv hn => by
    have := told_6 a0.data.toList hv hn
    rw [strL_of] at this
    exact ⟨w0, this⟩
  have hc : (validL a0.data.toList = false) ∨ (validL a0.data.toList = true ∧ ToldS (a0 ++ ⟨#[47]⟩) 4 0 a0 ∧ a0 = ⟨#[95, 95, 46, 83, 89, 77, 68, 69, 70]⟩) ∨ (validL a0.data.toList = true ∧ ToldS (a0 ++ ⟨#[47]⟩) 4 0 a0 ∧ (a0.toList == [95, 95, 46, 83, 89, 77, 68, 69, 70]) = false ∧ ToldS a0 6 0 a0) := by
    cases hv : validL a0.data.toList
    · exact .inl rfl
    · by_cases h : a0.data.toList = fSYMDEF
      · exact .inr (.inl ⟨rfl, hn4 hv, by rw [← strL_of a0, h]; rfl⟩)
      · exact .inr (.inr ⟨rfl, hn4 hv, by rw [Lib.toList_data]; unfold fSYMDEF at h; simpa using h, hn6 hv h⟩)
  have hsz : (a0.size : Int) ≤ 1048576 := by omega
  by_cases hv0 : a1 < 0
  · clear HZ hn4 hn6 w2 w1 hT
    rcases hc with hv | ⟨hv, T4, rfl⟩ | ⟨hv, T4, hne, T6⟩
    · rw [hv] at HV HL
      go_enter Tryd.func4, Tryd.ntmps4
      go_wp2_with (first
        | (go_at_call 12; refine (HT.out _ _ _ _ _ (by assumption) (by assumption)).mono ?_; rintro e wx ⟨rfl, hbx⟩)
        | (go_at_call 13; refine (HZ.out _).mono ?_; rintro e wx ⟨rfl, hwx⟩; subst wx)
        | (go_at_call 14; refine (HI.out _ (by assumption)).mono ?_; rintro e wx ⟨rfl, hbx⟩)
        | (go_at_call 15; refine (HV.out _).mono ?_; rintro e wx ⟨rfl, hwx⟩; subst wx)
        | (go_at_call 16; refine (HL.out _).mono ?_; rintro e wx ⟨rfl, hwx⟩; subst wx))
      go_ret
      exact ⟨rfl, by assumption⟩
    · rw [hv] at HV HL
      go_enter Tryd.func4, Tryd.ntmps4
      go_wp2_with (first
        | (go_at_call 12; refine (HT.out _ _ _ _ _ (by assumption) (by assumption)).mono ?_; rintro e wx ⟨rfl, hbx⟩)
        | (go_at_call 13; refine (HZ.out _).mono ?_; rintro e wx ⟨rfl, hwx⟩; subst wx)
        | (go_at_call 14; refine (HI.out _ (by assumption)).mono ?_; rintro e wx ⟨rfl, hbx⟩)
        | (go_at_call 15; refine (HV.out _).mono ?_; rintro e wx ⟨rfl, hwx⟩; subst wx)
        | (go_at_call 16; refine (HL.out _).mono ?_; rintro e wx ⟨rfl, hwx⟩; subst wx))
      go_ret
      exact ⟨rfl, by assumption⟩
    · rw [hv] at HV HL
      have hne2 : ¬ a0.toList = [95, 95, 46, 83, 89, 77, 68, 69, 70] := by simpa using hne
      go_enter Tryd.func4, Tryd.ntmps4
      go_wp2_with (first
        | (go_at_call 12; refine (HT.out _ _ _ _ _ (by assumption) (by assumption)).mono ?_; rintro e wx ⟨rfl, hbx⟩)
        | (go_at_call 13; refine (HZ.out _).mono ?_; rintro e wx ⟨rfl, hwx⟩; subst wx)
        | (go_at_call 14; refine (HI.out _ (by assumption)).mono ?_; rintro e wx ⟨rfl, hbx⟩)
        | (go_at_call 15; refine (HV.out _).mono ?_; rintro e wx ⟨rfl, hwx⟩; subst wx)
        | (go_at_call 16; refine (HL.out _).mono ?_; rintro e wx ⟨rfl, hwx⟩; subst wx))
      go_ret
      exact ⟨rfl, by assumption⟩
  · obtain ⟨v, rfl⟩ := Int.eq_ofNat_of_zero_le (show 0 ≤ a1 by omega)
    have hvb : v ≤ 9223372036854775807 := by have := (bounds_i64 w1).2; omega
    have HI : Hid (∀ w', Below w.heap.size w w' → Calls Tryd.prog 14 #[.int .i64 v] w' fun e w'' => e = .returned (.string (strL (dg 10 v))) ∧ Below w.heap.size w w'') := fun w' hb => (itoa_c v w' hvb (hT.on hb)).mono fun e w'' ⟨he, hb2⟩ => ⟨he, bel3 hb hb2⟩
    have hk16 : clamp16 a2 ≤ 16 := by unfold clamp16; split <;> (try split) <;> omega
    obtain ⟨n1, n2, n3⟩ := num_digits (clamp16 a2) v hvb
    have hdl := dec_len v hvb
    have t5 := told_5 _ n1 n2
    have t7 := told_7 _ n1 n2
    rw [n3] at t5 t7
    have hz1 : (strL (List.replicate (clamp16 a2) 48)).size ≤ 16 := by rw [strL_size, List.length_replicate]; exact hk16
    have hz2 : (strL (dg 10 v)).size ≤ 19 := by rw [strL_size]; exact hdl
    have ec : strL (List.replicate (clamp16 a2) 48) ++ strL (dg 10 v) = strL (List.replicate (clamp16 a2) 48 ++ dg 10 v) := strL_append _ _
    have T5 : ToldS (⟨#[47]⟩ ++ (strL (List.replicate (clamp16 a2) 48) ++ strL (dg 10 v))) 5 v ⟨#[]⟩ := by
      rw [ec]
      refine ⟨by rw [ByteArray.size_append, strL_size, List.length_append, List.length_replicate]; show 1 + _ ≤ maxLen; unfold maxLen; omega, ?_⟩
      have e : ((⟨#[47]⟩ : ByteArray) ++ strL (List.replicate (clamp16 a2) 48 ++ dg 10 v)).data.toList = 47 :: (List.replicate (clamp16 a2) 48 ++ dg 10 v) := by simp [strL]
      rw [e]; exact t5
    have T7 : ToldS (⟨#[35, 49, 47]⟩ ++ (strL (List.replicate (clamp16 a2) 48) ++ strL (dg 10 v))) 7 v ⟨#[]⟩ := by
      rw [ec]
      refine ⟨by rw [ByteArray.size_append, strL_size, List.length_append, List.length_replicate]; show 3 + _ ≤ maxLen; unfold maxLen; omega, ?_⟩
      have e : ((⟨#[35, 49, 47]⟩ : ByteArray) ++ strL (List.replicate (clamp16 a2) 48 ++ dg 10 v)).data.toList = 35 :: 49 :: 47 :: (List.replicate (clamp16 a2) 48 ++ dg 10 v) := by simp [strL]
      rw [e]; exact t7
    have hvi : ¬ ((v : Int) < 0) := by omega
    clear t5 t7 n1 n2 n3 hdl hk16 hv0 hT w1 w2 hn4 hn6 ec
    generalize strL (List.replicate (clamp16 a2) 48) = z1 at *
    generalize strL (dg 10 v) = z2 at *
    rcases hc with hv | ⟨hv, T4, rfl⟩ | ⟨hv, T4, hne, T6⟩
    · rw [hv] at HV HL
      go_enter Tryd.func4, Tryd.ntmps4
      go_wp2_with (first
        | (go_at_call 12; refine (HT.out _ _ _ _ _ (by assumption) (by assumption)).mono ?_; rintro e wx ⟨rfl, hbx⟩)
        | (go_at_call 13; refine (HZ.out _).mono ?_; rintro e wx ⟨rfl, hwx⟩; subst wx)
        | (go_at_call 14; refine (HI.out _ (by assumption)).mono ?_; rintro e wx ⟨rfl, hbx⟩)
        | (go_at_call 15; refine (HV.out _).mono ?_; rintro e wx ⟨rfl, hwx⟩; subst wx)
        | (go_at_call 16; refine (HL.out _).mono ?_; rintro e wx ⟨rfl, hwx⟩; subst wx))
      go_ret
      exact ⟨rfl, by assumption⟩
    · rw [hv] at HV HL
      go_enter Tryd.func4, Tryd.ntmps4
      go_wp2_with (first
        | (go_at_call 12; refine (HT.out _ _ _ _ _ (by assumption) (by assumption)).mono ?_; rintro e wx ⟨rfl, hbx⟩)
        | (go_at_call 13; refine (HZ.out _).mono ?_; rintro e wx ⟨rfl, hwx⟩; subst wx)
        | (go_at_call 14; refine (HI.out _ (by assumption)).mono ?_; rintro e wx ⟨rfl, hbx⟩)
        | (go_at_call 15; refine (HV.out _).mono ?_; rintro e wx ⟨rfl, hwx⟩; subst wx)
        | (go_at_call 16; refine (HL.out _).mono ?_; rintro e wx ⟨rfl, hwx⟩; subst wx))
      go_ret
      exact ⟨rfl, by assumption⟩
    · rw [hv] at HV HL
      have hne2 : ¬ a0.toList = [95, 95, 46, 83, 89, 77, 68, 69, 70] := by simpa using hne
      go_enter Tryd.func4, Tryd.ntmps4
      go_wp2_with (first
        | (go_at_call 12; refine (HT.out _ _ _ _ _ (by assumption) (by assumption)).mono ?_; rintro e wx ⟨rfl, hbx⟩)
        | (go_at_call 13; refine (HZ.out _).mono ?_; rintro e wx ⟨rfl, hwx⟩; subst wx)
        | (go_at_call 14; refine (HI.out _ (by assumption)).mono ?_; rintro e wx ⟨rfl, hbx⟩)
        | (go_at_call 15; refine (HV.out _).mono ?_; rintro e wx ⟨rfl, hwx⟩; subst wx)
        | (go_at_call 16; refine (HL.out _).mono ?_; rintro e wx ⟨rfl, hwx⟩; subst wx))
      go_ret
      exact ⟨rfl, by assumption⟩
theorem contract (H : Type) (enc : TypeId × Value → H) (W : World) (base : Nat) (args : Array Value) (ds gs : List (DataW H)) (before : List MemPlace)
    (hval : ∀ (j : Nat) t v, Tryd.f4.params[j]? = some t → args[j]? = some v → Value.okWide Tryd.prog W .any base t v)
    (hW : DataW.Whole enc Tryd.prog Tryd.f4.params.toList Rows.namesFormsSpec.vars false W args.toList ds gs before) (hL : laidMetH Tryd.prog Rows.namesFormsUptoRow.laid W) (hSh : W.ShapedOpen Tryd.prog) (hk : Rows.uptoSmall H (ds ++ gs) = true) :
    Calls Tryd.prog 4 args W fun e W' => ∃ v, e = .returned v ∧ Rows.namesFormsSpec.post enc Tryd.prog Tryd.f4 false true false false W args v W' := by
  have hW' := hW
  obtain ⟨p, q, hA0, hV, rfl, hfz, hnd⟩ := hW
  have hA : DataW.TrodAll enc Tryd.prog W 0 (fun _ => true) true Tryd.f4.params.toList args.toList ds p := hA0
  rw [Tryd.params4] at hA hval
  obtain ⟨v0, vs0, d0, ds0, p0, q0, hargs, rfl, rfl, h0, r0⟩ := trodAll_cons hA
  obtain ⟨v1, vs1, d1, ds1, p1, q1, rfl, rfl, rfl, h1, r1⟩ := trodAll_cons r0
  obtain ⟨v2, vs2, d2, ds2, p2, q2, rfl, rfl, rfl, h2, r2⟩ := trodAll_cons r1
  obtain ⟨rfl, rfl, rfl⟩ := trodAll_nil r2
  obtain rfl : args = #[v0, v1, v2] := by have h := congrArg List.toArray hargs; rw [Array.toArray_toList] at h; exact h
  obtain ⟨rfl, rfl⟩ := trodVars_none hV
  simp only [List.append_nil] at hk
  have hBk : Rows.uptoBulkAll [d0, d1, d2] ≤ 1048576 := of_decide_eq_true hk
  have bk0 : Rows.uptoBulk d0 ≤ 1048576 := Nat.le_trans (bulk_mem _ _ (by simp)) hBk
  obtain ⟨a0, rfl, rfl, rfl, w0⟩ := open_string Tryd.underlying9 (hval 0 9 v0 rfl rfl) h0
  have l0 : a0.size ≤ 1048576 := by
    have e : a0.data.toList.length = a0.size := by rw [Array.length_toList]; rfl
    simp only [Rows.uptoBulk] at bk0; omega
  obtain ⟨a1, rfl, rfl, rfl, w1⟩ := open_int Tryd.underlying3 (hval 1 3 v1 rfl rfl) h1
  obtain ⟨a2, rfl, rfl, rfl, w2⟩ := open_int Tryd.underlying3 (hval 2 3 v2 rfl rfl) h2
  clear hA0
  simp only [List.append_nil] at hW'
  refine (walk W a0 w0 l0 a1 w1 a2 w2 (tabs_of hL)).mono fun e W' ⟨he, hg⟩ => ?_
  subst he
  exact ⟨_, rfl, _, _, _, [], _, [], hW', trodAll_cons_mk (shut_bool Tryd.underlying4 _) trodAll_mk0, (trodAll_cons_mk (shut_string Tryd.underlying9 w0) (trodAll_cons_mk (shut_int Tryd.underlying3 w1) (trodAll_cons_mk (shut_int Tryd.underlying3 w2) trodAll_mk0))), rfl, hg.frame _, fun h => by cases h⟩
theorem laid_met (os : Os) : laidMet Tryd.prog Rows.namesFormsUptoRow.laid (({ (World.holding Tryd.prog os ⟨#[], #[], []⟩) with heap := ((((World.holding Tryd.prog os ⟨#[], #[], []⟩).heap.modify 2 fun
      | .cells _ t frozen => .cells #[.int .u8 0, .int .u8 1, .int .u8 28, .int .u8 2, .int .u8 29, .int .u8 14, .int .u8 24, .int .u8 3, .int .u8 30, .int .u8 22, .int .u8 20, .int .u8 15, .int .u8 25, .int .u8 17, .int .u8 4, .int .u8 8, .int .u8 31, .int .u8 27, .int .u8 13, .int .u8 23, .int .u8 21, .int .u8 19, .int .u8 16, .int .u8 7, .int .u8 26, .int .u8 12, .int .u8 18, .int .u8 6, .int .u8 11, .int .u8 5, .int .u8 10, .int .u8 9] t frozen
      | o => o).modify 3 fun
      | .cells _ t frozen => .cells #[.int .u8 0, .int .u8 1, .int .u8 56, .int .u8 2, .int .u8 57, .int .u8 49, .int .u8 28, .int .u8 3, .int .u8 61, .int .u8 58, .int .u8 42, .int .u8 50, .int .u8 38, .int .u8 29, .int .u8 17, .int .u8 4, .int .u8 62, .int .u8 47, .int .u8 59, .int .u8 36, .int .u8 45, .int .u8 43, .int .u8 51, .int .u8 22, .int .u8 53, .int .u8 39, .int .u8 33, .int .u8 30, .int .u8 24, .int .u8 18, .int .u8 12, .int .u8 5, .int .u8 63, .int .u8 55, .int .u8 48, .int .u8 27, .int .u8 60, .int .u8 41, .int .u8 37, .int .u8 16, .int .u8 46, .int .u8 35, .int .u8 44, .int .u8 21, .int .u8 52, .int .u8 32, .int .u8 23, .int .u8 11, .int .u8 54, .int .u8 26, .int .u8 40, .int .u8 15, .int .u8 34, .int .u8 20, .int .u8 31, .int .u8 10, .int .u8 25, .int .u8 14, .int .u8 19, .int .u8 9, .int .u8 13, .int .u8 8, .int .u8 7, .int .u8 6] t frozen
      | o => o).modify 0 fun
      | .cells _ t frozen => .cells #[.int .u64 1, .int .u64 10, .int .u64 100, .int .u64 1000, .int .u64 10000, .int .u64 100000, .int .u64 1000000, .int .u64 10000000, .int .u64 100000000, .int .u64 1000000000, .int .u64 10000000000, .int .u64 100000000000, .int .u64 1000000000000, .int .u64 10000000000000, .int .u64 100000000000000, .int .u64 1000000000000000, .int .u64 10000000000000000, .int .u64 100000000000000000, .int .u64 1000000000000000000, .int .u64 10000000000000000000] t frozen
      | o => o) } : World).forCall (fun _ _ => 0) ⟨#[], #[.string ByteArray.empty, .int .i64 0, .int .i64 0], []⟩).memory :=
  laidMet_of_run' 8 (by kernel_rfl) (by kernel_rfl)
theorem reads (os : Os) {H : Type} (enc : TypeId × Value → H) : ∃ places, DataW.whole enc Tryd.prog (({ (World.holding Tryd.prog os ⟨#[], #[], []⟩) with heap := ((((World.holding Tryd.prog os ⟨#[], #[], []⟩).heap.modify 2 fun
      | .cells _ t frozen => .cells #[.int .u8 0, .int .u8 1, .int .u8 28, .int .u8 2, .int .u8 29, .int .u8 14, .int .u8 24, .int .u8 3, .int .u8 30, .int .u8 22, .int .u8 20, .int .u8 15, .int .u8 25, .int .u8 17, .int .u8 4, .int .u8 8, .int .u8 31, .int .u8 27, .int .u8 13, .int .u8 23, .int .u8 21, .int .u8 19, .int .u8 16, .int .u8 7, .int .u8 26, .int .u8 12, .int .u8 18, .int .u8 6, .int .u8 11, .int .u8 5, .int .u8 10, .int .u8 9] t frozen
      | o => o).modify 3 fun
      | .cells _ t frozen => .cells #[.int .u8 0, .int .u8 1, .int .u8 56, .int .u8 2, .int .u8 57, .int .u8 49, .int .u8 28, .int .u8 3, .int .u8 61, .int .u8 58, .int .u8 42, .int .u8 50, .int .u8 38, .int .u8 29, .int .u8 17, .int .u8 4, .int .u8 62, .int .u8 47, .int .u8 59, .int .u8 36, .int .u8 45, .int .u8 43, .int .u8 51, .int .u8 22, .int .u8 53, .int .u8 39, .int .u8 33, .int .u8 30, .int .u8 24, .int .u8 18, .int .u8 12, .int .u8 5, .int .u8 63, .int .u8 55, .int .u8 48, .int .u8 27, .int .u8 60, .int .u8 41, .int .u8 37, .int .u8 16, .int .u8 46, .int .u8 35, .int .u8 44, .int .u8 21, .int .u8 52, .int .u8 32, .int .u8 23, .int .u8 11, .int .u8 54, .int .u8 26, .int .u8 40, .int .u8 15, .int .u8 34, .int .u8 20, .int .u8 31, .int .u8 10, .int .u8 25, .int .u8 14, .int .u8 19, .int .u8 9, .int .u8 13, .int .u8 8, .int .u8 7, .int .u8 6] t frozen
      | o => o).modify 0 fun
      | .cells _ t frozen => .cells #[.int .u64 1, .int .u64 10, .int .u64 100, .int .u64 1000, .int .u64 10000, .int .u64 100000, .int .u64 1000000, .int .u64 10000000, .int .u64 100000000, .int .u64 1000000000, .int .u64 10000000000, .int .u64 100000000000, .int .u64 1000000000000, .int .u64 10000000000000, .int .u64 100000000000000, .int .u64 1000000000000000, .int .u64 10000000000000000, .int .u64 100000000000000000, .int .u64 1000000000000000000, .int .u64 10000000000000000000] t frozen
      | o => o) } : World).forCall (fun _ _ => 0) ⟨#[], #[.string ByteArray.empty, .int .i64 0, .int .i64 0], []⟩).memory Tryd.f4.params.toList Rows.namesFormsSpec.vars false (#[.string ByteArray.empty, .int .i64 0, .int .i64 0] : Array Value).toList 8 = some ([.lit (.string []), .lit (.int .i64 0), .lit (.int .i64 0)], [], places) :=
  ⟨[], by kernel_rfl⟩
set_option maxRecDepth 100000 in
theorem lifted (os : Os) (started : os.Started) (H : Type) (enc : TypeId × Value → H) (F : Stop.Interp) :
    ReturnsInHanded {} Tryd.checked os 4 .any ((Rows.OpenSpec.upto Rows.namesFormsSpec).preRow enc Tryd.prog Tryd.f4 Rows.namesFormsUptoRow.domain false Rows.namesFormsUptoRow.laid) (((Rows.OpenSpec.upto Rows.namesFormsSpec).at F).post enc Tryd.prog Tryd.f4 false true false false) := by
  obtain ⟨places, hx⟩ := reads os enc
  refine returnsInHanded_of_row (C := Tryd.checked) (s := (Rows.OpenSpec.upto Rows.namesFormsSpec)) own started (by kernel_rfl) Tryd.func4
    (witness_row_at (enc := enc) (C := Tryd.checked) false ({ (World.holding Tryd.prog os ⟨#[], #[], []⟩) with heap := ((((World.holding Tryd.prog os ⟨#[], #[], []⟩).heap.modify 2 fun
      | .cells _ t frozen => .cells #[.int .u8 0, .int .u8 1, .int .u8 28, .int .u8 2, .int .u8 29, .int .u8 14, .int .u8 24, .int .u8 3, .int .u8 30, .int .u8 22, .int .u8 20, .int .u8 15, .int .u8 25, .int .u8 17, .int .u8 4, .int .u8 8, .int .u8 31, .int .u8 27, .int .u8 13, .int .u8 23, .int .u8 21, .int .u8 19, .int .u8 16, .int .u8 7, .int .u8 26, .int .u8 12, .int .u8 18, .int .u8 6, .int .u8 11, .int .u8 5, .int .u8 10, .int .u8 9] t frozen
      | o => o).modify 3 fun
      | .cells _ t frozen => .cells #[.int .u8 0, .int .u8 1, .int .u8 56, .int .u8 2, .int .u8 57, .int .u8 49, .int .u8 28, .int .u8 3, .int .u8 61, .int .u8 58, .int .u8 42, .int .u8 50, .int .u8 38, .int .u8 29, .int .u8 17, .int .u8 4, .int .u8 62, .int .u8 47, .int .u8 59, .int .u8 36, .int .u8 45, .int .u8 43, .int .u8 51, .int .u8 22, .int .u8 53, .int .u8 39, .int .u8 33, .int .u8 30, .int .u8 24, .int .u8 18, .int .u8 12, .int .u8 5, .int .u8 63, .int .u8 55, .int .u8 48, .int .u8 27, .int .u8 60, .int .u8 41, .int .u8 37, .int .u8 16, .int .u8 46, .int .u8 35, .int .u8 44, .int .u8 21, .int .u8 52, .int .u8 32, .int .u8 23, .int .u8 11, .int .u8 54, .int .u8 26, .int .u8 40, .int .u8 15, .int .u8 34, .int .u8 20, .int .u8 31, .int .u8 10, .int .u8 25, .int .u8 14, .int .u8 19, .int .u8 9, .int .u8 13, .int .u8 8, .int .u8 7, .int .u8 6] t frozen
      | o => o).modify 0 fun
      | .cells _ t frozen => .cells #[.int .u64 1, .int .u64 10, .int .u64 100, .int .u64 1000, .int .u64 10000, .int .u64 100000, .int .u64 1000000, .int .u64 10000000, .int .u64 100000000, .int .u64 1000000000, .int .u64 10000000000, .int .u64 100000000000, .int .u64 1000000000000, .int .u64 10000000000000, .int .u64 100000000000000, .int .u64 1000000000000000, .int .u64 10000000000000000, .int .u64 100000000000000000, .int .u64 1000000000000000000, .int .u64 10000000000000000000] t frozen
      | o => o) } : World) #[.string ByteArray.empty, .int .i64 0, .int .i64 0] rfl (by kernel_rfl) (by kernel_rfl) (by kernel_rfl)
      (OpenSpec.preRow_of_cond 8 hx (by kernel_rfl) (fun k hk => by cases hk; rfl) (by kernel_rfl) (laid_met os))) ?_
  intro W base args ds gs before hval hW _ hcond _ hL hSh _
  exact contract H enc W base args ds gs before hval hW hL hSh (hcond _ rfl)
theorem said : Rows.NamesFormsUptoSaid :=
  OpenClaim.holds_of_cond 4 Tryd.f4 rfl rfl rfl rfl rfl rfl rfl ⟨rfl, rfl, rfl, rfl, rfl⟩ rfl rfl rfl rfl rfl (by kernel_rfl) Tryd.func4 (by kernel_rfl)
    (of_decide_eq_true (by kernel_rfl)) (by unfold Func.isWrapper; first | (rw [if_pos (by decide +kernel)]; kernel_rfl) | (rw [if_neg (by decide +kernel)]; exact ⟨rfl, rfl⟩))
    (fun os started H enc _ F => by rw [OpenClaim.pre_eq_preRow]; exact lifted os started H enc F)
theorem plain (f : FuncId) (fn : Func) (hf : Tryd.pinned.checked.prog.funcNamed "shelf/shelflaw8.NamesForms" = some f) (hfn : Tryd.pinned.checked.prog.funcs[f]? = some fn) :
    true = Tryd.pinned.checked.prog.looks [] ∧ ∀ (j : Nat) t, fn.params[j]? = some t → Tryd.pinned.checked.prog.wantsStandIn t = false := by
  obtain rfl : f = 4 := Option.some.inj ((show Tryd.prog.funcNamed "shelf/shelflaw8.NamesForms" = some 4 by kernel_rfl).symm.trans hf) |>.symm
  obtain rfl : fn = Tryd.f4 := (Option.some.inj (Tryd.func4.symm.trans hfn)).symm
  refine ⟨by kernel_rfl, fun j t ht => ?_⟩
  rw [Tryd.params4] at ht
  have hmem := Array.mem_of_getElem? ht
  have s9 : Tryd.pinned.checked.prog.wantsStandIn 9 = false := by kernel_rfl
  have s3 : Tryd.pinned.checked.prog.wantsStandIn 3 = false := by kernel_rfl
  have sH : Tryd.pinned.checked.prog.wantsStandIn 22 = false := by kernel_rfl
  simp at hmem
  first
    | (rcases hmem with rfl | rfl | rfl <;> assumption)
    | (rcases hmem with rfl | rfl <;> assumption)
    | (subst hmem; assumption)
theorem card : Rows.NamesFormsUptoCardSaid :=
  Claim7.holds_tied_plain_at .later [] _ _ _ _ said (fun _ h => by cases h) (by kernel_rfl) (fun _ h => by cases h) namesFormsUpto_row_tie rfl ⟨rfl, rfl⟩ (by kernel_rfl) rfl plain (by kernel_rfl)
end Go.Proofs.YtmppfpkcnhcfbabDoor.namesForms
namespace Go.Proofs.YtmppfpkcnhcfbabDoor
theorem namesForms_holds : Rows.NamesFormsUptoCardSaid := namesForms.card
#print axioms namesForms_holds
end Go.Proofs.YtmppfpkcnhcfbabDoor
