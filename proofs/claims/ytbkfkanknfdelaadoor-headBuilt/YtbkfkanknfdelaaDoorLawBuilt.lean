
-- Proof of the given card about HeadBuilt. The frame follows the guide's toy for a law over a table; the walk and the lemmas are ours.
import Derived.Test.YtbkfkanknfdelaaDoorCards
import Derived.Test.YtbkfkanknfdelaaDoorTie
import Derived.Test.YtbkfkanknfdelaaDoorW4
import Derived.Test.YtbkfkanknfdelaaDoorW7
import Derived.Test.YtbkfkanknfdelaaDoorW6
import Derived.Test.YtbkfkanknfdelaaDoorO3
import Derived.WalkKit
import Derived.ProofKit
import Derived.OpenShut
import Derived.ShutString
import Derived.ChangeOld
import Derived.Below
import Derived.Deep.DeepHandedRow
import Derived.Stop.LaidErr
namespace Go.Proofs.YtbkfkanknfdelaaDoor.headBuilt
open Go.ChangeShapes Go.WideShapes Go.ChangeAt Go.RowKit
open Go.ChangeMaps (open_string shut_string)
set_option linter.unusedVariables false
set_option maxRecDepth 100000

theorem own : ownKnob Tryd.prog.godebug = none := by kernel_rfl
theorem laidOut : laidOutB Tryd.prog = true := by kernel_rfl
theorem laid_is {W : World} (h : laidMetH Tryd.prog Rows.headBuiltRow.laid W) : laidMet Tryd.prog [("math/bits.deBruijn32tab", Rows.laid_math_bits_deBruijn32tab), ("math/bits.deBruijn64tab", Rows.laid_math_bits_deBruijn64tab), ("internal/strconv.uint64pow10", Rows.laid_internal_strconv_uint64pow10), ("shelf/head.columns", Rows.laid_shelf_head_columns)] W := h
theorem cols_of {W : World} (h : laidMetH Tryd.prog Rows.headBuiltRow.laid W) : Cols W := cols_of_head (laid_is h).tail.tail.tail
theorem tabs_of {W : World} (h : laidMetH Tryd.prog Rows.headBuiltRow.laid W) : Tabs W := tabs_of_heads (laid_is h).tail (laid_is h).tail.tail
theorem no (d u g m s c : Int) (n : ByteArray) (w : World) (hc : (c != 0) = true) (HC : Hid (Cols w)) (HT : Hid (Tabs w)) (HF : Hid (∀ w, Cols w → Tabs w → Calls Tryd.prog 14 #[.agg #[.int .i64 d, .int .i64 u, .int .i64 g, .int .i64 m, .string n, .int .i64 s]] w fun e w' => e = .returned (.tuple #[.string ⟨#[]⟩, .int .i64 c]) ∧ Below w.heap.size w w')) (HI : Hid (∀ w, Calls Tryd.prog 15 #[.agg #[.int .i64 d, .int .i64 u, .int .i64 g, .int .i64 m, .string n, .int .i64 s]] w fun e w' => e = .returned (.bool false) ∧ Below w.heap.size w w')) : Calls Tryd.prog 6 #[.agg #[.int .i64 d, .int .i64 u, .int .i64 g, .int .i64 m, .string n, .int .i64 s]] w fun e w' => e = .returned (.bool true) ∧ Below w.heap.size w w' := by
  have hB0 : Below w.heap.size w (w.alloc (.cells #[.int .i64 d, .int .i64 u, .int .i64 g, .int .i64 m, .string n, .int .i64 s] 25)) := bup (Below.refl _ _) _
  have hr0 := heap_alloc_new w (.cells #[.int .i64 d, .int .i64 u, .int .i64 g, .int .i64 m, .string n, .int .i64 s] 25)
  go_enter Tryd.func6, Tryd.ntmps6
  go_wp2_with (first | (go_at_call 14; refine (HF.out _ (HC.out.on hB0) (HT.out.on hB0)).mono ?_; rintro e w1 ⟨rfl, hb1⟩; have hr1 := hkeep hb1 hr0; have hB1 := bel3 hB0 hb1) | (go_at_call 15; refine (HI.out _).mono ?_; rintro e w2 ⟨rfl, hb2⟩; have hR : RowB w.heap.size d u g m s n w2 := ⟨hkeep hb2 hr1⟩; have hB := bel3 hB1 hb2; obtain ⟨x0, x1, x2, x3, x4, x5⟩ := hR.cells) | (refine wpList_load_row rfl _ _ rfl w.heap.size rfl _ _ _ _ hr1 Tryd.underlying25 rfl (by kernel_rfl) ?_))
  go_ret
  exact ⟨rfl, hB⟩
set_option maxHeartbeats 2000000 in
theorem built (d u g m s : Int) (n T A : ByteArray) (w : World) (hn : n.size ≤ 16) (HC : Hid (Cols w)) (HT : Hid (Tabs w)) (HF : Hid (∀ w, Cols w → Tabs w → Calls Tryd.prog 14 #[.agg #[.int .i64 d, .int .i64 u, .int .i64 g, .int .i64 m, .string n, .int .i64 s]] w fun e w' => e = .returned (.tuple #[.string T, .int .i64 0]) ∧ Below w.heap.size w w')) (HI : Hid (∀ w, Calls Tryd.prog 15 #[.agg #[.int .i64 d, .int .i64 u, .int .i64 g, .int .i64 m, .string n, .int .i64 s]] w fun e w' => e = .returned (.bool true) ∧ Below w.heap.size w w'))
    (pt : Int → Int → ByteArray) (pe : Int → Int → Int) (ot : Int → Int → ByteArray) (oe : Int → Int → Int)
    (HD : Hid (∀ (v k : Int) (wx : World), v ≤ 9223372036854775807 → Below w.heap.size w wx → RowB w.heap.size d u g m s n wx → Calls Tryd.prog 16 #[.int .i64 v, .int .i64 k] wx fun e w' => e = .returned (.tuple #[.string (pt v k), .int .i64 (pe v k)]) ∧ Below w.heap.size w w' ∧ RowB w.heap.size d u g m s n w'))
    (i1 : d ≤ 9223372036854775807) (i2 : u ≤ 9223372036854775807) (i3 : g ≤ 9223372036854775807) (i4 : m ≤ 9223372036854775807) (i5 : s ≤ 9223372036854775807)
    (HO : Hid (∀ (v k : Int) (wx : World), v ≤ 9223372036854775807 → Below w.heap.size w wx → RowB w.heap.size d u g m s n wx → Calls Tryd.prog 17 #[.int .i64 v, .int .i64 k] wx fun e w' => e = .returned (.tuple #[.string (ot v k), .int .i64 (oe v k)]) ∧ Below w.heap.size w w' ∧ RowB w.heap.size d u g m s n w'))
    (hA : A.size = 16) (hsl : ∀ w, (Instr.slice 9 (.string (n ++ ⟨#[32, 32, 32, 32, 32, 32, 32, 32, 32, 32, 32, 32, 32, 32, 32, 32]⟩)) none (some (.int .i64 16)) none).run Tryd.prog w = .ok (.string A) w) (hns : (n ++ ⟨#[32, 32, 32, 32, 32, 32, 32, 32, 32, 32, 32, 32, 32, 32, 32, 32]⟩).size = n.size + 16)
    (z0 : (pt d 12).size = 12) (z1 : (pt u 6).size = 6) (z2 : (pt g 6).size = 6) (z3 : (ot m 8).size = 8) (z4 : (pt s 10).size = 10)
    (hcat : A ++ pt d 12 ++ pt u 6 ++ pt g 6 ++ ot m 8 ++ pt s 10 ++ ⟨#[96, 10]⟩ = T) : Calls Tryd.prog 6 #[.agg #[.int .i64 d, .int .i64 u, .int .i64 g, .int .i64 m, .string n, .int .i64 s]] w fun e w' => e = .returned (.bool true) ∧ Below w.heap.size w w' := by
  have c1 : (A ++ pt d 12).size = 28 := by rw [ByteArray.size_append, hA, z0]
  have c2 : (A ++ pt d 12 ++ pt u 6).size = 34 := by rw [ByteArray.size_append, c1, z1]
  have c3 : (A ++ pt d 12 ++ pt u 6 ++ pt g 6).size = 40 := by rw [ByteArray.size_append, c2, z2]
  have c4 : (A ++ pt d 12 ++ pt u 6 ++ pt g 6 ++ ot m 8).size = 48 := by rw [ByteArray.size_append, c3, z3]
  have c5 : (A ++ pt d 12 ++ pt u 6 ++ pt g 6 ++ ot m 8 ++ pt s 10).size = 58 := by rw [ByteArray.size_append, c4, z4]
  have HCat : Hid (A ++ pt d 12 ++ pt u 6 ++ pt g 6 ++ ot m 8 ++ pt s 10 ++ ⟨#[96, 10]⟩ = T) := hcat
  clear hcat
  have hB0 : Below w.heap.size w (w.alloc (.cells #[.int .i64 d, .int .i64 u, .int .i64 g, .int .i64 m, .string n, .int .i64 s] 25)) := bup (Below.refl _ _) _
  have hr0 := heap_alloc_new w (.cells #[.int .i64 d, .int .i64 u, .int .i64 g, .int .i64 m, .string n, .int .i64 s] 25)
  go_enter Tryd.func6, Tryd.ntmps6
  go_wp2_with (first
    | (go_at_call 14; refine (HF.out _ (HC.out.on hB0) (HT.out.on hB0)).mono ?_; rintro e w1 ⟨rfl, hb1⟩; have hr1 := hkeep hb1 hr0; have hB1 := bel3 hB0 hb1)
    | (go_at_call 15; refine (HI.out _).mono ?_; rintro e w2 ⟨rfl, hb2⟩; have hR : RowB w.heap.size d u g m s n w2 := ⟨hkeep hb2 hr1⟩; have hB := bel3 hB1 hb2; obtain ⟨x0, x1, x2, x3, x4, x5⟩ := hR.cells)
    | (refine wpList_load_row rfl _ _ rfl w.heap.size rfl _ _ _ _ hr1 Tryd.underlying25 rfl (by kernel_rfl) ?_)
    | (go_at_call 16; refine (HD.out _ _ _ (by assumption) hB hR).mono ?_; clear hB hR x0 x1 x2 x3 x4 x5; rintro e w3 ⟨rfl, hB, hR⟩; obtain ⟨x0, x1, x2, x3, x4, x5⟩ := hR.cells)
    | (go_at_call 17; refine (HO.out _ _ _ (by assumption) hB hR).mono ?_; clear hB hR x0 x1 x2 x3 x4 x5; rintro e w3 ⟨rfl, hB, hR⟩; obtain ⟨x0, x1, x2, x3, x4, x5⟩ := hR.cells))
  go_ret
  exact ⟨by rw [HCat.out]; simp, hB⟩
theorem walk (a0 : Hd) (w0 : HdOk a0) (w : World) (hC : Cols w) (hT : Tabs w) :
    Calls Tryd.prog 6 #[.agg (hdC a0)] w fun e w' => e = .returned (.bool true) ∧ Below w.heap.size w w' := by
  have hF := fun w hC hT => format_c a0 w hC hT w0
  have hI := fun w => fits_c a0 w w0
  have hin := w0.inn
  by_cases hn : named a0.name.data.toList
  · by_cases hf : fitsH a0
    · have e1 : formatH a0 = (strL (formL a0), 0) := by unfold formatH; rw [if_pos hn, if_pos hf]
      have e2 : takes a0 = true := decide_eq_true ⟨hn, hf⟩
      rw [e1] at hF
      rw [e2] at hI
      have hl : a0.name.data.toList.length = a0.name.size := by simp
      have hcat := strL_cat a0 hn hf
      obtain ⟨f1, f2, f3, f4, f5⟩ := hf
      have t1 : putText 10 a0.date 12 = strL (pad 10 a0.date 12) := (putText_fit 10 a0.date 12 (by omega) (by omega)).trans (if_pos f1)
      have t2 : putText 10 a0.uid 6 = strL (pad 10 a0.uid 6) := (putText_fit 10 a0.uid 6 (by omega) (by omega)).trans (if_pos f2)
      have t3 : putText 10 a0.gid 6 = strL (pad 10 a0.gid 6) := (putText_fit 10 a0.gid 6 (by omega) (by omega)).trans (if_pos f3)
      have t4 : putText 8 a0.mode 8 = strL (pad 8 a0.mode 8) := (putText_fit 8 a0.mode 8 (by omega) (by omega)).trans (if_pos f4)
      have t5 : putText 10 a0.size 10 = strL (pad 10 a0.size 10) := (putText_fit 10 a0.size 10 (by omega) (by omega)).trans (if_pos f5)
      have hn1 : a0.name.size ≤ 16 := by have := hn.1; omega
      refine built a0.date a0.uid a0.gid a0.mode a0.size a0.name (strL (formL a0)) (strL (nameF a0.name.data.toList)) w hn1 hC hT hF hI (putText 10) (putErr 10) (putText 8) (putErr 8)
        (fun v k wx hv hb hr => (put_10 v k wx (hT.on hb) hv).mono fun e w' ⟨he, hb'⟩ => ⟨he, bel3 hb hb', ⟨hkeep hb' hr.row⟩⟩) hin.1 hin.2.1 hin.2.2.1 hin.2.2.2.1 hin.2.2.2.2
        (fun v k wx hv hb hr => (put_8 v k wx (hT.on hb) hv).mono fun e w' ⟨he, hb'⟩ => ⟨he, bel3 hb hb', ⟨hkeep hb' hr.row⟩⟩)
        (by rw [strL_size]; exact nameF_len _ hn.1) (fun w => ?_) (by rw [ByteArray.size_append]; rfl)
        (by rw [t1, strL_size]; exact pad_lenI 10 a0.date 12 f1) (by rw [t2, strL_size]; exact pad_lenI 10 a0.uid 6 f2) (by rw [t3, strL_size]; exact pad_lenI 10 a0.gid 6 f3) (by rw [t4, strL_size]; exact pad_lenI 8 a0.mode 8 f4) (by rw [t5, strL_size]; exact pad_lenI 10 a0.size 10 f5)
        (by rw [t1, t2, t3, t4, t5]; exact hcat)
      have hz : (a0.name ++ ⟨#[32, 32, 32, 32, 32, 32, 32, 32, 32, 32, 32, 32, 32, 32, 32, 32]⟩).size = a0.name.size + 16 := by rw [ByteArray.size_append]; rfl
      rw [run_slice_string_to_if w 9 _ .i64 16 Tryd.underlying9, if_pos (by rw [hz]; omega)]
      rw [show (16 : Int).toNat = 16 from rfl, Lib.extract_upto]
      have e : (a0.name ++ ⟨#[32, 32, 32, 32, 32, 32, 32, 32, 32, 32, 32, 32, 32, 32, 32, 32]⟩).data.toList.take 16 = nameF a0.name.data.toList := by
        have e0 : (a0.name ++ ⟨#[32, 32, 32, 32, 32, 32, 32, 32, 32, 32, 32, 32, 32, 32, 32, 32]⟩).data.toList = a0.name.data.toList ++ List.replicate 16 32 := by
          simp [ByteArray.data_append, Array.toList_append]
        rw [e0, List.take_append, List.take_of_length_le (by omega), List.take_replicate, Nat.min_eq_left (by omega)]
        rfl
      rw [e]; rfl
    · have e1 : formatH a0 = (ByteArray.empty, 11) := by unfold formatH; rw [if_pos hn, if_neg hf]
      have e2 : takes a0 = false := decide_eq_false (fun h => hf h.2)
      rw [e1] at hF
      rw [e2] at hI
      exact no a0.date a0.uid a0.gid a0.mode a0.size 11 a0.name w rfl hC hT hF hI
  · have e1 : formatH a0 = (ByteArray.empty, 80) := by unfold formatH; rw [if_neg hn]
    have e2 : takes a0 = false := decide_eq_false (fun h => hn h.1)
    rw [e1] at hF
    rw [e2] at hI
    exact no a0.date a0.uid a0.gid a0.mode a0.size 80 a0.name w rfl hC hT hF hI
theorem contract (H : Type) (enc : TypeId × Value → H) (W : World) (base : Nat) (args : Array Value) (ds gs : List (DataW H)) (before : List MemPlace)
    (hval : ∀ (j : Nat) t v, Tryd.f6.params[j]? = some t → args[j]? = some v → Value.okWide Tryd.prog W .any base t v)
    (hW : DataW.Whole enc Tryd.prog Tryd.f6.params.toList Rows.headBuiltSpec.vars false W args.toList ds gs before) (hL : laidMetH Tryd.prog Rows.headBuiltRow.laid W) :
    Calls Tryd.prog 6 args W fun e W' => ∃ v, e = .returned v ∧ Rows.headBuiltSpec.post enc Tryd.prog Tryd.f6 false true false false W args v W' := by
  have hW' := hW
  obtain ⟨p, q, hA0, hV, rfl, hfz, hnd⟩ := hW
  have hA : DataW.TrodAll enc Tryd.prog W 0 (fun _ => true) true Tryd.f6.params.toList args.toList ds p := hA0
  rw [Tryd.params6] at hA hval
  obtain ⟨v0, vs0, d0, ds0, p0, q0, hargs, rfl, rfl, h0, r0⟩ := trodAll_cons hA
  obtain ⟨rfl, rfl, rfl⟩ := trodAll_nil r0
  obtain rfl : args = #[v0] := by have h := congrArg List.toArray hargs; rw [Array.toArray_toList] at h; exact h
  obtain ⟨rfl, rfl⟩ := trodVars_none hV
  have k0 := h0
  have lt0 : ∀ x ∈ p0, x.block < W.heap.size := by obtain ⟨m, hm⟩ := k0; exact DataW.trod_lt m _ _ _ hm
  obtain ⟨cs0, rfl, hcs0⟩ := okWide_struct Tryd.underlying25 (hval 0 25 v0 rfl rfl)
  obtain ⟨a0, rfl, w0⟩ := open_head h0
  clear hA0
  simp only [List.append_nil] at hW'
  refine (walk a0 w0 W (cols_of hL) (tabs_of hL)).mono fun e W' ⟨he, hg⟩ => ?_
  subst he
  exact ⟨_, rfl, _, _, _, [], _, [], hW', trodAll_cons_mk (shut_bool Tryd.underlying4 _) trodAll_mk0, (trodAll_cons_mk (Below.trod laidOut (by kernel_rfl) (of_decide_eq_true (by kernel_rfl)) k0 hg lt0) trodAll_mk0), rfl, hg.frame _, fun h => by cases h⟩
theorem laid_met (os : Os) : laidMet Tryd.prog Rows.headBuiltRow.laid (({ (World.holding Tryd.prog os ⟨#[], #[], []⟩) with heap := (((((World.holding Tryd.prog os ⟨#[], #[], []⟩).heap.modify 5 fun
      | .cells _ t frozen => .cells #[.int .u8 0, .int .u8 1, .int .u8 28, .int .u8 2, .int .u8 29, .int .u8 14, .int .u8 24, .int .u8 3, .int .u8 30, .int .u8 22, .int .u8 20, .int .u8 15, .int .u8 25, .int .u8 17, .int .u8 4, .int .u8 8, .int .u8 31, .int .u8 27, .int .u8 13, .int .u8 23, .int .u8 21, .int .u8 19, .int .u8 16, .int .u8 7, .int .u8 26, .int .u8 12, .int .u8 18, .int .u8 6, .int .u8 11, .int .u8 5, .int .u8 10, .int .u8 9] t frozen
      | o => o).modify 6 fun
      | .cells _ t frozen => .cells #[.int .u8 0, .int .u8 1, .int .u8 56, .int .u8 2, .int .u8 57, .int .u8 49, .int .u8 28, .int .u8 3, .int .u8 61, .int .u8 58, .int .u8 42, .int .u8 50, .int .u8 38, .int .u8 29, .int .u8 17, .int .u8 4, .int .u8 62, .int .u8 47, .int .u8 59, .int .u8 36, .int .u8 45, .int .u8 43, .int .u8 51, .int .u8 22, .int .u8 53, .int .u8 39, .int .u8 33, .int .u8 30, .int .u8 24, .int .u8 18, .int .u8 12, .int .u8 5, .int .u8 63, .int .u8 55, .int .u8 48, .int .u8 27, .int .u8 60, .int .u8 41, .int .u8 37, .int .u8 16, .int .u8 46, .int .u8 35, .int .u8 44, .int .u8 21, .int .u8 52, .int .u8 32, .int .u8 23, .int .u8 11, .int .u8 54, .int .u8 26, .int .u8 40, .int .u8 15, .int .u8 34, .int .u8 20, .int .u8 31, .int .u8 10, .int .u8 25, .int .u8 14, .int .u8 19, .int .u8 9, .int .u8 13, .int .u8 8, .int .u8 7, .int .u8 6] t frozen
      | o => o).modify 1 fun
      | .cells _ t frozen => .cells #[.int .u64 1, .int .u64 10, .int .u64 100, .int .u64 1000, .int .u64 10000, .int .u64 100000, .int .u64 1000000, .int .u64 10000000, .int .u64 100000000, .int .u64 1000000000, .int .u64 10000000000, .int .u64 100000000000, .int .u64 1000000000000, .int .u64 10000000000000, .int .u64 100000000000000, .int .u64 1000000000000000, .int .u64 10000000000000000, .int .u64 100000000000000000, .int .u64 1000000000000000000, .int .u64 10000000000000000000] t frozen
      | o => o).modify 0 fun
      | .cells _ t frozen => .cells #[.int .i64 0, .int .i64 16, .int .i64 0, .int .i64 16, .int .i64 12, .int .i64 10, .int .i64 28, .int .i64 6, .int .i64 10, .int .i64 34, .int .i64 6, .int .i64 10, .int .i64 40, .int .i64 8, .int .i64 8, .int .i64 48, .int .i64 10, .int .i64 10, .int .i64 58, .int .i64 2, .int .i64 0] t frozen
      | o => o) } : World).forCall (fun _ _ => 0) ⟨#[], #[.agg #[.int .i64 0, .int .i64 0, .int .i64 0, .int .i64 0, .string ByteArray.empty, .int .i64 0]], []⟩).memory :=
  laidMet_of_run' 8 (by kernel_rfl) (by kernel_rfl)
theorem reads (os : Os) {H : Type} (enc : TypeId × Value → H) : ∃ places, DataW.whole enc Tryd.prog (({ (World.holding Tryd.prog os ⟨#[], #[], []⟩) with heap := (((((World.holding Tryd.prog os ⟨#[], #[], []⟩).heap.modify 5 fun
      | .cells _ t frozen => .cells #[.int .u8 0, .int .u8 1, .int .u8 28, .int .u8 2, .int .u8 29, .int .u8 14, .int .u8 24, .int .u8 3, .int .u8 30, .int .u8 22, .int .u8 20, .int .u8 15, .int .u8 25, .int .u8 17, .int .u8 4, .int .u8 8, .int .u8 31, .int .u8 27, .int .u8 13, .int .u8 23, .int .u8 21, .int .u8 19, .int .u8 16, .int .u8 7, .int .u8 26, .int .u8 12, .int .u8 18, .int .u8 6, .int .u8 11, .int .u8 5, .int .u8 10, .int .u8 9] t frozen
      | o => o).modify 6 fun
      | .cells _ t frozen => .cells #[.int .u8 0, .int .u8 1, .int .u8 56, .int .u8 2, .int .u8 57, .int .u8 49, .int .u8 28, .int .u8 3, .int .u8 61, .int .u8 58, .int .u8 42, .int .u8 50, .int .u8 38, .int .u8 29, .int .u8 17, .int .u8 4, .int .u8 62, .int .u8 47, .int .u8 59, .int .u8 36, .int .u8 45, .int .u8 43, .int .u8 51, .int .u8 22, .int .u8 53, .int .u8 39, .int .u8 33, .int .u8 30, .int .u8 24, .int .u8 18, .int .u8 12, .int .u8 5, .int .u8 63, .int .u8 55, .int .u8 48, .int .u8 27, .int .u8 60, .int .u8 41, .int .u8 37, .int .u8 16, .int .u8 46, .int .u8 35, .int .u8 44, .int .u8 21, .int .u8 52, .int .u8 32, .int .u8 23, .int .u8 11, .int .u8 54, .int .u8 26, .int .u8 40, .int .u8 15, .int .u8 34, .int .u8 20, .int .u8 31, .int .u8 10, .int .u8 25, .int .u8 14, .int .u8 19, .int .u8 9, .int .u8 13, .int .u8 8, .int .u8 7, .int .u8 6] t frozen
      | o => o).modify 1 fun
      | .cells _ t frozen => .cells #[.int .u64 1, .int .u64 10, .int .u64 100, .int .u64 1000, .int .u64 10000, .int .u64 100000, .int .u64 1000000, .int .u64 10000000, .int .u64 100000000, .int .u64 1000000000, .int .u64 10000000000, .int .u64 100000000000, .int .u64 1000000000000, .int .u64 10000000000000, .int .u64 100000000000000, .int .u64 1000000000000000, .int .u64 10000000000000000, .int .u64 100000000000000000, .int .u64 1000000000000000000, .int .u64 10000000000000000000] t frozen
      | o => o).modify 0 fun
      | .cells _ t frozen => .cells #[.int .i64 0, .int .i64 16, .int .i64 0, .int .i64 16, .int .i64 12, .int .i64 10, .int .i64 28, .int .i64 6, .int .i64 10, .int .i64 34, .int .i64 6, .int .i64 10, .int .i64 40, .int .i64 8, .int .i64 8, .int .i64 48, .int .i64 10, .int .i64 10, .int .i64 58, .int .i64 2, .int .i64 0] t frozen
      | o => o) } : World).forCall (fun _ _ => 0) ⟨#[], #[.agg #[.int .i64 0, .int .i64 0, .int .i64 0, .int .i64 0, .string ByteArray.empty, .int .i64 0]], []⟩).memory Tryd.f6.params.toList Rows.headBuiltSpec.vars false (#[.agg #[.int .i64 0, .int .i64 0, .int .i64 0, .int .i64 0, .string ByteArray.empty, .int .i64 0]] : Array Value).toList 8 = some ([.agg [.agg [.lit (.int .i64 0), .lit (.int .i64 0), .lit (.int .i64 0), .lit (.int .i64 0)], .lit (.string []), .lit (.int .i64 0)]], [], places) :=
  ⟨[], by kernel_rfl⟩
set_option maxRecDepth 100000 in
theorem lifted (os : Os) (started : os.Started) (H : Type) (enc : TypeId × Value → H) (F : Stop.Interp) :
    ReturnsInHanded {} Tryd.checked os 6 .any ((OpenSpec.ofChange Rows.headBuiltSpec).preRow enc Tryd.prog Tryd.f6 Rows.headBuiltRow.domain false Rows.headBuiltRow.laid) (((OpenSpec.ofChange Rows.headBuiltSpec).at F).post enc Tryd.prog Tryd.f6 false true false false) := by
  obtain ⟨places, hx⟩ := reads os enc
  refine returnsInHanded_of_row (C := Tryd.checked) (s := (OpenSpec.ofChange Rows.headBuiltSpec)) own started (by kernel_rfl) Tryd.func6
    (witness_row_at (enc := enc) (C := Tryd.checked) false ({ (World.holding Tryd.prog os ⟨#[], #[], []⟩) with heap := (((((World.holding Tryd.prog os ⟨#[], #[], []⟩).heap.modify 5 fun
      | .cells _ t frozen => .cells #[.int .u8 0, .int .u8 1, .int .u8 28, .int .u8 2, .int .u8 29, .int .u8 14, .int .u8 24, .int .u8 3, .int .u8 30, .int .u8 22, .int .u8 20, .int .u8 15, .int .u8 25, .int .u8 17, .int .u8 4, .int .u8 8, .int .u8 31, .int .u8 27, .int .u8 13, .int .u8 23, .int .u8 21, .int .u8 19, .int .u8 16, .int .u8 7, .int .u8 26, .int .u8 12, .int .u8 18, .int .u8 6, .int .u8 11, .int .u8 5, .int .u8 10, .int .u8 9] t frozen
      | o => o).modify 6 fun
      | .cells _ t frozen => .cells #[.int .u8 0, .int .u8 1, .int .u8 56, .int .u8 2, .int .u8 57, .int .u8 49, .int .u8 28, .int .u8 3, .int .u8 61, .int .u8 58, .int .u8 42, .int .u8 50, .int .u8 38, .int .u8 29, .int .u8 17, .int .u8 4, .int .u8 62, .int .u8 47, .int .u8 59, .int .u8 36, .int .u8 45, .int .u8 43, .int .u8 51, .int .u8 22, .int .u8 53, .int .u8 39, .int .u8 33, .int .u8 30, .int .u8 24, .int .u8 18, .int .u8 12, .int .u8 5, .int .u8 63, .int .u8 55, .int .u8 48, .int .u8 27, .int .u8 60, .int .u8 41, .int .u8 37, .int .u8 16, .int .u8 46, .int .u8 35, .int .u8 44, .int .u8 21, .int .u8 52, .int .u8 32, .int .u8 23, .int .u8 11, .int .u8 54, .int .u8 26, .int .u8 40, .int .u8 15, .int .u8 34, .int .u8 20, .int .u8 31, .int .u8 10, .int .u8 25, .int .u8 14, .int .u8 19, .int .u8 9, .int .u8 13, .int .u8 8, .int .u8 7, .int .u8 6] t frozen
      | o => o).modify 1 fun
      | .cells _ t frozen => .cells #[.int .u64 1, .int .u64 10, .int .u64 100, .int .u64 1000, .int .u64 10000, .int .u64 100000, .int .u64 1000000, .int .u64 10000000, .int .u64 100000000, .int .u64 1000000000, .int .u64 10000000000, .int .u64 100000000000, .int .u64 1000000000000, .int .u64 10000000000000, .int .u64 100000000000000, .int .u64 1000000000000000, .int .u64 10000000000000000, .int .u64 100000000000000000, .int .u64 1000000000000000000, .int .u64 10000000000000000000] t frozen
      | o => o).modify 0 fun
      | .cells _ t frozen => .cells #[.int .i64 0, .int .i64 16, .int .i64 0, .int .i64 16, .int .i64 12, .int .i64 10, .int .i64 28, .int .i64 6, .int .i64 10, .int .i64 34, .int .i64 6, .int .i64 10, .int .i64 40, .int .i64 8, .int .i64 8, .int .i64 48, .int .i64 10, .int .i64 10, .int .i64 58, .int .i64 2, .int .i64 0] t frozen
      | o => o) } : World) #[.agg #[.int .i64 0, .int .i64 0, .int .i64 0, .int .i64 0, .string ByteArray.empty, .int .i64 0]] rfl (by kernel_rfl) (by kernel_rfl) (by kernel_rfl)
      (OpenSpec.preRow_of_cond 8 hx (by kernel_rfl) (fun k hk => by cases hk) (by kernel_rfl) (laid_met os))) ?_
  intro W base args ds gs before hval hW _ _ _ hL _ _
  exact contract H enc W base args ds gs before hval hW hL
theorem said : Rows.HeadBuiltSaid :=
  OpenClaim.holds_of_cond 6 Tryd.f6 rfl rfl rfl rfl rfl rfl rfl ⟨rfl, rfl, rfl, rfl, rfl⟩ rfl rfl rfl rfl rfl (by kernel_rfl) Tryd.func6 (by kernel_rfl)
    (of_decide_eq_true (by kernel_rfl)) (by unfold Func.isWrapper; first | (rw [if_pos (by decide +kernel)]; kernel_rfl) | (rw [if_neg (by decide +kernel)]; exact ⟨rfl, rfl⟩))
    (fun os started H enc _ F => by rw [OpenClaim.pre_eq_preRow]; exact lifted os started H enc F)
theorem plain (f : FuncId) (fn : Func) (hf : Tryd.pinned.checked.prog.funcNamed "shelf/shelflaw7.HeadBuilt" = some f) (hfn : Tryd.pinned.checked.prog.funcs[f]? = some fn) :
    false = Tryd.pinned.checked.prog.looks [] ∧ ∀ (j : Nat) t, fn.params[j]? = some t → Tryd.pinned.checked.prog.wantsStandIn t = false := by
  obtain rfl : f = 6 := Option.some.inj ((show Tryd.prog.funcNamed "shelf/shelflaw7.HeadBuilt" = some 6 by kernel_rfl).symm.trans hf) |>.symm
  obtain rfl : fn = Tryd.f6 := (Option.some.inj (Tryd.func6.symm.trans hfn)).symm
  refine ⟨by kernel_rfl, fun j t ht => ?_⟩
  rw [Tryd.params6] at ht
  have hmem := Array.mem_of_getElem? ht
  have s9 : Tryd.pinned.checked.prog.wantsStandIn 9 = false := by kernel_rfl
  have s3 : Tryd.pinned.checked.prog.wantsStandIn 3 = false := by kernel_rfl
  have sH : Tryd.pinned.checked.prog.wantsStandIn 25 = false := by kernel_rfl
  simp at hmem
  first
    | (rcases hmem with rfl | rfl | rfl <;> assumption)
    | (rcases hmem with rfl | rfl <;> assumption)
    | (subst hmem; assumption)
theorem card : Rows.HeadBuiltCardSaid :=
  Claim7.holds_tied_plain_at .later [] _ _ _ _ said (fun _ h => by cases h) (by kernel_rfl) (fun _ h => by cases h) headBuilt_row_tie rfl ⟨rfl, rfl⟩ (by kernel_rfl) rfl plain (by kernel_rfl)
end Go.Proofs.YtbkfkanknfdelaaDoor.headBuilt
namespace Go.Proofs.YtbkfkanknfdelaaDoor
theorem headBuilt_holds : Rows.HeadBuiltCardSaid := headBuilt.card
#print axioms headBuilt_holds
end Go.Proofs.YtbkfkanknfdelaaDoor
