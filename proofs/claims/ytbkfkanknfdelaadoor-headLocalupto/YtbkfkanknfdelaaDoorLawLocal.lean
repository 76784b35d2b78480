
-- Proof of the given card about HeadLocal, second form. The frame follows the guide's toy for a law over a table; the walk and the lemmas are ours.
import Derived.Test.YtbkfkanknfdelaaDoorCards
import Derived.Test.YtbkfkanknfdelaaDoorTie
import Derived.Test.YtbkfkanknfdelaaDoorX7
import Derived.Test.YtbkfkanknfdelaaDoorQ2
import Derived.WalkKit
import Derived.ProofKit
import Derived.OpenShut
import Derived.ShutString
import Derived.ChangeOld
import Derived.Below
import Derived.Deep.DeepHandedRow
import Derived.Stop.LaidErr
namespace Go.Proofs.YtbkfkanknfdelaaDoor.headLocal
open Go.ChangeShapes Go.WideShapes Go.ChangeAt Go.RowKit
open Go.ChangeMaps (open_string shut_string)
set_option linter.unusedVariables false
set_option maxRecDepth 100000

theorem own : ownKnob Tryd.prog.godebug = none := by kernel_rfl
theorem laidOut : laidOutB Tryd.prog = true := by kernel_rfl
theorem laid_is {W : World} (h : laidMetH Tryd.prog Rows.headLocalUptoRow.laid W) : laidMet Tryd.prog [("unicode/utf8.acceptRanges", Rows.laid_unicode_utf8_acceptRanges), ("shelf/head.columns", Rows.laid_shelf_head_columns), ("unicode/utf8.first", Rows.laid_unicode_utf8_first)] W := h
theorem cols_of {W : World} (h : laidMetH Tryd.prog Rows.headLocalUptoRow.laid W) : Cols W := cols_of_head (laid_is h).tail
theorem bulk_mem {H : Type} : ∀ (l : List (DataW H)) (d : DataW H), d ∈ l → Rows.uptoBulk d ≤ Rows.uptoBulkAll l
  | [], d, h => by cases h
  | x :: r, d, h => by
    simp only [Rows.uptoBulkAll]
    rcases List.mem_cons.1 h with rfl | h
    · omega
    · have := bulk_mem r d h; omega
theorem cat_size (a b : ByteArray) : (a ++ b).size = a.size + b.size := ByteArray.size_append
set_option maxHeartbeats 1000000 in
theorem few (b A B : ByteArray) (i : Int) (w : World) (hb : b.size ≤ maxLen) (hi : i ≤ 9223372036854775807) (h : i < 0 ∨ (b.size : Int) - 60 < i)
    (HN : Hid (∀ w, Cols w → Calls Tryd.prog 9 #[.string b, .int .i64 i] w fun e w' => e = .returned (.tuple #[.agg #[.int .i64 0, .int .i64 0, .int .i64 0, .int .i64 0, .string ⟨#[]⟩, .int .i64 0], .int .i64 70]) ∧ Below w.heap.size w w')) (HC : Hid (Cols w)) :
    Calls Tryd.prog 3 #[.string b, .int .i64 i, .string A, .string B] w fun e w' => e = .returned (.bool true) ∧ Below w.heap.size w w' := by
  unfold maxLen at hb
  have hE := eqHd 0 0 0 0 ⟨#[]⟩ 0
  by_cases h0 : i < 0
  · have b1 : decide (i < 0) = true := by simp; omega
    clear h
    go_enter Tryd.func3, Tryd.ntmps3
    go_wp2_with (go_at_call 9; refine (HN.out _ HC.out).mono ?_; rintro e w1 ⟨rfl, hb1⟩)
    go_ret
    exact ⟨rfl, bup hb1 _⟩
  · have b1 : decide (i < 0) = false := by simp; omega
    by_cases h2 : (b.size : Int) < i
    · have b2 : decide ((b.size : Int) < i) = true := by simp; omega
      clear h
      go_enter Tryd.func3, Tryd.ntmps3
      go_wp2_with (go_at_call 9; refine (HN.out _ HC.out).mono ?_; rintro e w1 ⟨rfl, hb1⟩)
      go_ret
      exact ⟨rfl, bup hb1 _⟩
    · have b2 : decide ((b.size : Int) < i) = false := by simp; omega
      have b3 : decide ((b.size : Int) - i < 60) = true := by simp; omega
      clear h
      go_enter Tryd.func3, Tryd.ntmps3
      go_wp2_with (go_at_call 9; refine (HN.out _ HC.out).mono ?_; rintro e w1 ⟨rfl, hb1⟩)
      go_ret
      exact ⟨rfl, bup hb1 _⟩
theorem walk (a0 : ByteArray) (w0 : a0.size ≤ maxLen) (l0 : a0.size ≤ 1048576) (a1 : Int) (w1 : (Lit.int .i64 a1).wf = true) (a2 : ByteArray) (w2 : a2.size ≤ maxLen) (l2 : a2.size ≤ 1048576) (a3 : ByteArray) (w3 : a3.size ≤ maxLen) (l3 : a3.size ≤ 1048576) (w : World) (hC : Cols w) :
    Calls Tryd.prog 3 #[.string a0, .int .i64 a1, .string a2, .string a3] w fun e w' => e = .returned (.bool true) ∧ Below w.heap.size w w' := by
  have hw1 := wf64 w1
  by_cases hs : a1 < 0 ∨ (a0.size : Int) - 60 < a1
  · refine few a0 a2 a3 a1 w w0 hw1.2 hs (fun w hC => ?_) hC
    have h := parse_c a0 a1 w hC w0
    unfold parseAt at h
    rw [if_pos hs] at h
    exact h
  · have he := parse_err a0 a1 hs
    obtain ⟨n, rfl⟩ := Int.eq_ofNat_of_zero_le (show 0 ≤ a1 by omega)
    obtain ⟨hd, hz⟩ := sl60 a0 n (by omega)
    have hp : parseAt (a2 ++ a0.extract n (n + 60) ++ a3) a2.size = parseAt a0 n := by
      rw [parse_mid _ _ _ hz, hd]
      unfold parseAt
      rw [if_neg hs, Int.toNat_natCast]
    have hsl : ∀ w, (Instr.slice 9 (.string a0) (some (.int .i64 (n : Int))) (some (.int .i64 ((n : Int) + 60))) none).run Tryd.prog w = .ok (.string (a0.extract n (n + 60))) w := by
      intro w
      rw [run_slice_string w 9 a0 .i64 .i64 n ((n : Int) + 60) Tryd.underlying9 (by omega) (by omega) (by omega), Int.toNat_natCast, show ((n : Int) + 60).toNat = n + 60 from by omega]
    have HN : Hid (∀ w, Cols w → Calls Tryd.prog 9 #[.string a0, .int .i64 n] w fun e w' => e = .returned (.tuple #[hdV (parseAt a0 n).1, .int .i64 (parseAt a0 n).2]) ∧ Below w.heap.size w w') := fun w hC => parse_c a0 n w hC w0
    have HN2 : Hid (∀ w, Cols w → Calls Tryd.prog 9 #[.string (a2 ++ a0.extract n (n + 60) ++ a3), .int .i64 a2.size] w fun e w' => e = .returned (.tuple #[hdV (parseAt a0 n).1, .int .i64 (parseAt a0 n).2]) ∧ Below w.heap.size w w') := fun w hC => by
      have h := parse_c (a2 ++ a0.extract n (n + 60) ++ a3) a2.size w hC (by rw [cat_size, cat_size, hz]; unfold maxLen; omega)
      rw [hp] at h; exact h
    generalize a0.extract n (n + 60) = Hs at hz hp hsl HN2
    clear hp hd
    generalize (parseAt a0 n).2 = c at he HN HN2
    generalize (parseAt a0 n).1 = h at HN HN2
    have hc : (c != 70) = true := by simp [he]
    unfold hdV at HN HN2
    have hE := eqHd h.date h.uid h.gid h.mode h.name h.size
    have HC : Hid (Cols w) := hC
    clear hC he
    have b1 : decide ((n : Int) < 0) = false := by simp
    have b2 : decide ((a0.size : Int) < (n : Int)) = false := by simp; omega
    have b3 : decide ((a0.size : Int) - (n : Int) < 60) = false := by simp; omega
    have hn : (n : Int) ≤ (a0.size : Int) - 60 := by omega
    unfold maxLen at w0
    clear hs w1 hw1 w2 w3
    have c1 := cat_size a2 Hs
    have c2 := cat_size (a2 ++ Hs) a3
    rw [c1, hz] at c2
    rw [hz] at c1
    go_enter Tryd.func3, Tryd.ntmps3
    go_wp2_with (first
      | (go_at_call_of 9 (Value.string a0); refine (HN.out _ HC.out).mono ?_; rintro e w1 ⟨rfl, hb1⟩)
      | (go_at_call 9; refine (HN2.out _ ((HC.out.on hb1).alloc _)).mono ?_; rintro e w2 ⟨rfl, hb2⟩; have hr := hup (hkeep hb2 (heap_alloc_new w1 (.cells (hdC h) 25))) (.cells (hdC h) 25); unfold hdC at hr)
      | (refine wpList_load_row rfl _ _ rfl w1.heap.size rfl _ _ _ _ hr Tryd.underlying25 rfl (by kernel_rfl) ?_))
    go_ret
    exact ⟨by simp, bup (bel3 (bup hb1 _) hb2) _⟩
theorem contract (H : Type) (enc : TypeId × Value → H) (W : World) (base : Nat) (args : Array Value) (ds gs : List (DataW H)) (before : List MemPlace)
    (hval : ∀ (j : Nat) t v, Tryd.f3.params[j]? = some t → args[j]? = some v → Value.okWide Tryd.prog W .any base t v)
    (hW : DataW.Whole enc Tryd.prog Tryd.f3.params.toList Rows.headLocalSpec.vars false W args.toList ds gs before) (hL : laidMetH Tryd.prog Rows.headLocalUptoRow.laid W) (hk : Rows.uptoSmall H (ds ++ gs) = true) :
    Calls Tryd.prog 3 args W fun e W' => ∃ v, e = .returned v ∧ Rows.headLocalSpec.post enc Tryd.prog Tryd.f3 false true false false W args v W' := by
  have hW' := hW
  obtain ⟨p, q, hA0, hV, rfl, hfz, hnd⟩ := hW
  have hA : DataW.TrodAll enc Tryd.prog W 0 (fun _ => true) true Tryd.f3.params.toList args.toList ds p := hA0
  rw [Tryd.params3] at hA hval
  obtain ⟨v0, vs0, d0, ds0, p0, q0, hargs, rfl, rfl, h0, r0⟩ := trodAll_cons hA
  obtain ⟨v1, vs1, d1, ds1, p1, q1, rfl, rfl, rfl, h1, r1⟩ := trodAll_cons r0
  obtain ⟨v2, vs2, d2, ds2, p2, q2, rfl, rfl, rfl, h2, r2⟩ := trodAll_cons r1
  obtain ⟨v3, vs3, d3, ds3, p3, q3, rfl, rfl, rfl, h3, r3⟩ := trodAll_cons r2
  obtain ⟨rfl, rfl, rfl⟩ := trodAll_nil r3
  obtain rfl : args = #[v0, v1, v2, v3] := by have h := congrArg List.toArray hargs; rw [Array.toArray_toList] at h; exact h
  obtain ⟨rfl, rfl⟩ := trodVars_none hV
  simp only [List.append_nil] at hk
  have hBk : Rows.uptoBulkAll [d0, d1, d2, d3] ≤ 1048576 := of_decide_eq_true hk
  have bk0 : Rows.uptoBulk d0 ≤ 1048576 := Nat.le_trans (bulk_mem _ _ (by simp)) hBk
  have bk2 : Rows.uptoBulk d2 ≤ 1048576 := Nat.le_trans (bulk_mem _ _ (by simp)) hBk
  have bk3 : Rows.uptoBulk d3 ≤ 1048576 := Nat.le_trans (bulk_mem _ _ (by simp)) hBk
  obtain ⟨a0, rfl, rfl, rfl, w0⟩ := open_string Tryd.underlying9 (hval 0 9 v0 rfl rfl) h0
  have l0 : a0.size ≤ 1048576 := by
    have e : a0.data.toList.length = a0.size := by rw [Array.length_toList]; rfl
    simp only [Rows.uptoBulk] at bk0; omega
  obtain ⟨a1, rfl, rfl, rfl, w1⟩ := open_int Tryd.underlying3 (hval 1 3 v1 rfl rfl) h1
  obtain ⟨a2, rfl, rfl, rfl, w2⟩ := open_string Tryd.underlying9 (hval 2 9 v2 rfl rfl) h2
  have l2 : a2.size ≤ 1048576 := by
    have e : a2.data.toList.length = a2.size := by rw [Array.length_toList]; rfl
    simp only [Rows.uptoBulk] at bk2; omega
  obtain ⟨a3, rfl, rfl, rfl, w3⟩ := open_string Tryd.underlying9 (hval 3 9 v3 rfl rfl) h3
  have l3 : a3.size ≤ 1048576 := by
    have e : a3.data.toList.length = a3.size := by rw [Array.length_toList]; rfl
    simp only [Rows.uptoBulk] at bk3; omega
  clear hA0
  simp only [List.append_nil] at hW'
  refine (walk a0 w0 l0 a1 w1 a2 w2 l2 a3 w3 l3 W (cols_of hL)).mono fun e W' ⟨he, hg⟩ => ?_
  subst he
  exact ⟨_, rfl, _, _, _, [], _, [], hW', trodAll_cons_mk (shut_bool Tryd.underlying4 _) trodAll_mk0, (trodAll_cons_mk (shut_string Tryd.underlying9 w0) (trodAll_cons_mk (shut_int Tryd.underlying3 w1) (trodAll_cons_mk (shut_string Tryd.underlying9 w2) (trodAll_cons_mk (shut_string Tryd.underlying9 w3) trodAll_mk0)))), rfl, hg.frame _, fun h => by cases h⟩
theorem laid_met (os : Os) : laidMet Tryd.prog Rows.headLocalUptoRow.laid (({ (World.holding Tryd.prog os ⟨#[], #[], []⟩) with heap := ((((World.holding Tryd.prog os ⟨#[], #[], []⟩).heap.modify 3 fun
      | .cells _ t frozen => .cells #[.int .u8 128, .int .u8 191, .int .u8 160, .int .u8 191, .int .u8 128, .int .u8 159, .int .u8 144, .int .u8 191, .int .u8 128, .int .u8 143, .int .u8 0, .int .u8 0, .int .u8 0, .int .u8 0, .int .u8 0, .int .u8 0, .int .u8 0, .int .u8 0, .int .u8 0, .int .u8 0, .int .u8 0, .int .u8 0, .int .u8 0, .int .u8 0, .int .u8 0, .int .u8 0, .int .u8 0, .int .u8 0, .int .u8 0, .int .u8 0, .int .u8 0, .int .u8 0] t frozen
      | o => o).modify 0 fun
      | .cells _ t frozen => .cells #[.int .i64 0, .int .i64 16, .int .i64 0, .int .i64 16, .int .i64 12, .int .i64 10, .int .i64 28, .int .i64 6, .int .i64 10, .int .i64 34, .int .i64 6, .int .i64 10, .int .i64 40, .int .i64 8, .int .i64 8, .int .i64 48, .int .i64 10, .int .i64 10, .int .i64 58, .int .i64 2, .int .i64 0] t frozen
      | o => o).modify 2 fun
      | .cells _ t frozen => .cells (Go.Pinned.utf8FirstZ.map fun (n : Nat) => Value.int .u8 n).toArray t frozen
      | o => o) } : World).forCall (fun _ _ => 0) ⟨#[], #[.string ByteArray.empty, .int .i64 0, .string ByteArray.empty, .string ByteArray.empty], []⟩).memory :=
  laidMet_of_run' 8 (by kernel_rfl) (by kernel_rfl)
theorem reads (os : Os) {H : Type} (enc : TypeId × Value → H) : ∃ places, DataW.whole enc Tryd.prog (({ (World.holding Tryd.prog os ⟨#[], #[], []⟩) with heap := ((((World.holding Tryd.prog os ⟨#[], #[], []⟩).heap.modify 3 fun
      | .cells _ t frozen => .cells #[.int .u8 128, .int .u8 191, .int .u8 160, .int .u8 191, .int .u8 128, .int .u8 159, .int .u8 144, .int .u8 191, .int .u8 128, .int .u8 143, .int .u8 0, .int .u8 0, .int .u8 0, .int .u8 0, .int .u8 0, .int .u8 0, .int .u8 0, .int .u8 0, .int .u8 0, .int .u8 0, .int .u8 0, .int .u8 0, .int .u8 0, .int .u8 0, .int .u8 0, .int .u8 0, .int .u8 0, .int .u8 0, .int .u8 0, .int .u8 0, .int .u8 0, .int .u8 0] t frozen
      | o => o).modify 0 fun
      | .cells _ t frozen => .cells #[.int .i64 0, .int .i64 16, .int .i64 0, .int .i64 16, .int .i64 12, .int .i64 10, .int .i64 28, .int .i64 6, .int .i64 10, .int .i64 34, .int .i64 6, .int .i64 10, .int .i64 40, .int .i64 8, .int .i64 8, .int .i64 48, .int .i64 10, .int .i64 10, .int .i64 58, .int .i64 2, .int .i64 0] t frozen
      | o => o).modify 2 fun
      | .cells _ t frozen => .cells (Go.Pinned.utf8FirstZ.map fun (n : Nat) => Value.int .u8 n).toArray t frozen
      | o => o) } : World).forCall (fun _ _ => 0) ⟨#[], #[.string ByteArray.empty, .int .i64 0, .string ByteArray.empty, .string ByteArray.empty], []⟩).memory Tryd.f3.params.toList Rows.headLocalSpec.vars false (#[.string ByteArray.empty, .int .i64 0, .string ByteArray.empty, .string ByteArray.empty] : Array Value).toList 8 = some ([.lit (.string []), .lit (.int .i64 0), .lit (.string []), .lit (.string [])], [], places) :=
  ⟨[], by kernel_rfl⟩
set_option maxRecDepth 100000 in
theorem lifted (os : Os) (started : os.Started) (H : Type) (enc : TypeId × Value → H) (F : Stop.Interp) :
    ReturnsInHanded {} Tryd.checked os 3 .any ((Rows.OpenSpec.upto Rows.headLocalSpec).preRow enc Tryd.prog Tryd.f3 Rows.headLocalUptoRow.domain false Rows.headLocalUptoRow.laid) (((Rows.OpenSpec.upto Rows.headLocalSpec).at F).post enc Tryd.prog Tryd.f3 false true false false) := by
  obtain ⟨places, hx⟩ := reads os enc
  refine returnsInHanded_of_row (C := Tryd.checked) (s := (Rows.OpenSpec.upto Rows.headLocalSpec)) own started (by kernel_rfl) Tryd.func3
    (witness_row_at (enc := enc) (C := Tryd.checked) false ({ (World.holding Tryd.prog os ⟨#[], #[], []⟩) with heap := ((((World.holding Tryd.prog os ⟨#[], #[], []⟩).heap.modify 3 fun
      | .cells _ t frozen => .cells #[.int .u8 128, .int .u8 191, .int .u8 160, .int .u8 191, .int .u8 128, .int .u8 159, .int .u8 144, .int .u8 191, .int .u8 128, .int .u8 143, .int .u8 0, .int .u8 0, .int .u8 0, .int .u8 0, .int .u8 0, .int .u8 0, .int .u8 0, .int .u8 0, .int .u8 0, .int .u8 0, .int .u8 0, .int .u8 0, .int .u8 0, .int .u8 0, .int .u8 0, .int .u8 0, .int .u8 0, .int .u8 0, .int .u8 0, .int .u8 0, .int .u8 0, .int .u8 0] t frozen
      | o => o).modify 0 fun
      | .cells _ t frozen => .cells #[.int .i64 0, .int .i64 16, .int .i64 0, .int .i64 16, .int .i64 12, .int .i64 10, .int .i64 28, .int .i64 6, .int .i64 10, .int .i64 34, .int .i64 6, .int .i64 10, .int .i64 40, .int .i64 8, .int .i64 8, .int .i64 48, .int .i64 10, .int .i64 10, .int .i64 58, .int .i64 2, .int .i64 0] t frozen
      | o => o).modify 2 fun
      | .cells _ t frozen => .cells (Go.Pinned.utf8FirstZ.map fun (n : Nat) => Value.int .u8 n).toArray t frozen
      | o => o) } : World) #[.string ByteArray.empty, .int .i64 0, .string ByteArray.empty, .string ByteArray.empty] rfl (by kernel_rfl) (by kernel_rfl) (by kernel_rfl)
      (OpenSpec.preRow_of_cond 8 hx (by kernel_rfl) (fun k hk => by cases hk; rfl) (by kernel_rfl) (laid_met os))) ?_
  intro W base args ds gs before hval hW _ hcond _ hL _ _
  exact contract H enc W base args ds gs before hval hW hL (hcond _ rfl)
theorem said : Rows.HeadLocalUptoSaid :=
  OpenClaim.holds_of_cond 3 Tryd.f3 rfl rfl rfl rfl rfl rfl rfl ⟨rfl, rfl, rfl, rfl, rfl⟩ rfl rfl rfl rfl rfl (by kernel_rfl) Tryd.func3 (by kernel_rfl)
    (of_decide_eq_true (by kernel_rfl)) (by unfold Func.isWrapper; first | (rw [if_pos (by decide +kernel)]; kernel_rfl) | (rw [if_neg (by decide +kernel)]; exact ⟨rfl, rfl⟩))
    (fun os started H enc _ F => by rw [OpenClaim.pre_eq_preRow]; exact lifted os started H enc F)
theorem plain (f : FuncId) (fn : Func) (hf : Tryd.pinned.checked.prog.funcNamed "shelf/shelflaw7.HeadLocal" = some f) (hfn : Tryd.pinned.checked.prog.funcs[f]? = some fn) :
    false = Tryd.pinned.checked.prog.looks [] ∧ ∀ (j : Nat) t, fn.params[j]? = some t → Tryd.pinned.checked.prog.wantsStandIn t = false := by
  obtain rfl : f = 3 := Option.some.inj ((show Tryd.prog.funcNamed "shelf/shelflaw7.HeadLocal" = some 3 by kernel_rfl).symm.trans hf) |>.symm
  obtain rfl : fn = Tryd.f3 := (Option.some.inj (Tryd.func3.symm.trans hfn)).symm
  refine ⟨by kernel_rfl, fun j t ht => ?_⟩
  rw [Tryd.params3] at ht
  have hmem := Array.mem_of_getElem? ht
  have s9 : Tryd.pinned.checked.prog.wantsStandIn 9 = false := by kernel_rfl
  have s3 : Tryd.pinned.checked.prog.wantsStandIn 3 = false := by kernel_rfl
  have sH : Tryd.pinned.checked.prog.wantsStandIn 25 = false := by kernel_rfl
  simp at hmem
  first
    | (rcases hmem with rfl | rfl | rfl <;> assumption)
    | (rcases hmem with rfl | rfl <;> assumption)
    | (subst hmem; assumption)
theorem card : Rows.HeadLocalUptoCardSaid :=
  Claim7.holds_tied_plain_at .later [] _ _ _ _ said (fun _ h => by cases h) (by kernel_rfl) (fun _ h => by cases h) headLocalUpto_row_tie rfl ⟨rfl, rfl⟩ (by kernel_rfl) rfl plain (by kernel_rfl)
end Go.Proofs.YtbkfkanknfdelaaDoor.headLocal
namespace Go.Proofs.YtbkfkanknfdelaaDoor
theorem headLocal_holds : Rows.HeadLocalUptoCardSaid := headLocal.card
#print axioms headLocal_holds
end Go.Proofs.YtbkfkanknfdelaaDoor
