
-- Proof of the given card about NamesBack, second form. The frame follows the guide's toy for a law over a table; the walk and the lemmas are ours.
import Derived.Test.YtmppfpkcnhcfbabDoorCards
import Derived.Test.YtmppfpkcnhcfbabDoorTie
import Derived.Test.YtmppfpkcnhcfbabDoorN3
import Derived.Test.YtmppfpkcnhcfbabDoorO8
import Derived.WalkKit
import Derived.ProofKit
import Derived.OpenShut
import Derived.ShutString
import Derived.ChangeOld
import Derived.Below
import Derived.Deep.DeepHandedRow
import Derived.Stop.LaidErr
import Derived.BigRegion
import Derived.RegionTactic
import Derived.Deep.RegionHeld3
import Derived.Shelf.Vars
import Derived.SliceStrings
namespace Go.Proofs.YtmppfpkcnhcfbabDoor.namesBack
open Go.ChangeShapes Go.WideShapes Go.ChangeAt Go.RowKit
open Go.ChangeMaps (open_string shut_string)
set_option linter.unusedVariables false
set_option maxRecDepth 100000

theorem own : ownKnob Tryd.prog.godebug = none := by kernel_rfl
theorem laidOut : laidOutB Tryd.prog = true := by kernel_rfl
theorem laid_is {W : World} (h : laidMetH Tryd.prog Rows.namesBackUptoRow.laid W) : laidMet Tryd.prog [("math/bits.deBruijn32tab", Rows.laid_math_bits_deBruijn32tab), ("math/bits.deBruijn64tab", Rows.laid_math_bits_deBruijn64tab), ("internal/strconv.uint64pow10", Rows.laid_internal_strconv_uint64pow10), ("unicode/utf8.acceptRanges", Rows.laid_unicode_utf8_acceptRanges), ("unicode/utf8.first", Rows.laid_unicode_utf8_first)] W := h
theorem tabs_of {W : World} (h : laidMetH Tryd.prog Rows.namesBackUptoRow.laid W) : Tabs W := tabs_of_heads (laid_is h).tail (laid_is h).tail.tail
theorem bulk_mem {H : Type} : ∀ (l : List (DataW H)) (d : DataW H), d ∈ l → Rows.uptoBulk d ≤ Rows.uptoBulkAll l
  | [], d, h => by cases h
  | x :: r, d, h => by
    simp only [Rows.uptoBulkAll]
    rcases List.mem_cons.1 h with rfl | h
    · omega
    · have := bulk_mem r d h; omega
theorem bulk_strs {H : Type} (l : List ByteArray) : Rows.uptoBulkAll (strs (H := H) l) = tot l := by
  induction l with
  | nil => rfl
  | cons b r ih =>
    have e : b.data.toList.length = b.size := by rw [Array.length_toList]; rfl
    have t : tot (b :: r) = b.size + 1 + tot r := by simp [tot]
    rw [t, ← ih]
    show Rows.uptoBulk (DataW.lit (H := H) (.string b.data.toList)) + Rows.uptoBulkAll (strs (H := H) r) = _
    simp only [Rows.uptoBulk, e]
theorem num_c' (n : Int) (w : World) : Calls Tryd.prog 10 #[.int .i64 n] w fun e w' => e = .returned (.int .i64 n) ∧ w' = w := by
  go_enter Tryd.func10, Tryd.ntmps10
  go_wp2
  go_ret
  exact ⟨rfl, rfl⟩

set_option maxHeartbeats 4000000 in
theorem walk (w : World) (a0 : Int) (w0 : (Lit.int .i64 a0).wf = true) (a1 : Value) (l1 : List ByteArray) (w1 : RowS w a1 l1) (t1 : tot l1 ≤ 1048575) (a2 : ByteArray) (w2 : a2.size ≤ maxLen) (l2 : a2.size ≤ 1048576) (hT : Tabs w) (hX : MaxLenAt w) :
    Calls Tryd.prog 6 #[.int .i64 a0, a1, .string a2] w fun e w' => e = .returned (.bool true) ∧ Below w.heap.size w w' := by
  have hr1 := Int.tmod_lt_of_pos a0 (show (0 : Int) < 3 by decide)
  have hr2 : -3 < a0.tmod 3 := by have := Int.lt_tmod_of_pos a0 (show (0 : Int) < 3 by decide); omega
  have hk3 : (a0.tmod 3 + 3) % 3 = 0 ∨ (a0.tmod 3 + 3) % 3 = 1 ∨ (a0.tmod 3 + 3) % 3 = 2 := by omega
  obtain ⟨KL, hKL⟩ : ∃ KL, KL = l1.filter okN := ⟨_, rfl⟩
  have tK : tot KL ≤ 1048575 := by rw [hKL]; exact Nat.le_trans (tot_filter l1 okN) t1
  have lK := tot_len KL
  have l1n := tot_len l1
  have HK : Hid (Calls Tryd.prog 21 #[a1] w fun e w' => ∃ v, e = .returned v ∧ w'.ownsRow w.heap.size 9 1 v KL.length (strV KL) ∧ Below w.heap.size w w') := by
    rw [hKL]; exact kept_c a1 l1 w w1 (by omega) (fun j hj => by have := size_tot l1 j hj; unfold maxLen; omega)
  have HW : Hid (∀ (v : Value) (wx : World), RowS wx v KL → Calls Tryd.prog 22 #[v] wx fun e w' => e = .returned (.bool false) ∧ w' = wx) := fun v wx h =>
    wide_c v KL wx h (by omega) (fun j hj => by have := size_tot KL j hj; omega) (fun j => by have := wsum_tot (KL.take j); have := tot_take KL j; omega)
  have HTw : Hid (∀ (v : Value) (wx : World), wx.ownsRow w.heap.size 9 1 v KL.length (strV KL) → Calls Tryd.prog 17 #[v] wx fun e w' => ∃ v', e = .returned v' ∧ w'.ownsRow wx.heap.size 9 1 v' KL.length (strV KL) ∧ Below wx.heap.size wx w') := fun v wx h => twin_c v KL wx _ h (by omega)
  have HE : Hid (∀ (kk : Int) (v : Value) (wx : World), (kk = 0 ∨ kk = 1 ∨ kk = 2) → RowS wx v KL → Tabs wx → Calls Tryd.prog 7 #[.int .i64 kk, v] wx fun e w' => EncDone kk KL wx e w') := fun kk v wx h1 h2 h3 => by
    rw [hKL] at h2 ⊢; exact pencode_ok kk h1 v l1 wx h2 t1 h3
  have HNm : Hid (∀ (n : Int) (w : World), Calls Tryd.prog 10 #[.int .i64 n] w fun e w' => e = .returned (.int .i64 n) ∧ w' = w) := fun n w => num_c' n w
  have HT := hidE hT
  have HX := hidE hX
  have HVL : Hid (∀ j, j < KL.length → validL (KL.getD j .empty).data.toList = true) := fun j hj => by rw [hKL] at hj ⊢; exact all_ok l1 j hj
  have HB := hidE (And.intro tK lK)
  obtain ⟨n, hn⟩ : ∃ n, n = KL.length := ⟨_, rfl⟩
  have HN := hidE hn
  clear hT hX w0 w1 t1 hKL tK lK l1n hn
  go_enter Tryd.func6, Tryd.ntmps6
  go_wp2_with (fail)
  generalize (a0.tmod 3 + 3) % 3 = kk at *
  generalize a0.tmod 3 = k1 at *
  refine HK.out.mono ?_
  rintro e w1 ⟨v, rfl, hown1, hb1⟩
  have hrow1 := RowS.of_own hown1
  have hT1 := HT.out.on hb1
  obtain ⟨ao, cap, rfl, hcl⟩ := hrow1.cells
  rw [← HN.out] at hcl ⊢
  have HO1 := hidE (And.intro hown1 hrow1)
  have HCL := hidE hcl
  clear hcl hown1 hrow1
  go_wp2_with (first
    | (go_at_call 22; refine (HW.out _ _ (by rw [HN.out]; exact HO1.out.2)).mono ?_; rintro e wa ⟨rfl, hwa⟩; subst wa)
    | (go_at_call 17; refine (HTw.out _ _ (by rw [HN.out]; exact HO1.out.1)).mono ?_; rintro e w2 ⟨v2, rfl, hown2, hb2⟩; have hrow2 := RowS.of_own hown2; have hT2 := hT1.on hb2)
    | (go_at_call 7; refine (HE.out _ _ _ hk3 hrow2 hT2).mono ?_; rintro e w3 ⟨f, g, hfg, hf0, hg0, rfl, hrf, hrg, hb3⟩; rw [← HN.out] at hrf hrg ⊢)
    | (go_at_call 10; refine (HNm.out _ _).mono ?_; rintro e wa ⟨rfl, hwa⟩; subst wa))
  have hLLe : ∃ LL, LL = KL.map (·.data.toList) := ⟨_, rfl⟩
  obtain ⟨LL, hLL⟩ := hLLe
  rw [← hLL] at hrf hrg ⊢
  have HLL := hidE hLL
  have HBL : Hid (Below w.heap.size w (w3.alloc (.cells #[.slice (some ⟨f, 0, none⟩) n n, .slice (some ⟨g, 0, none⟩) n n, .string (strL (tabL kk LL))] 24))) := bup (bel3' (bel3' hb1 hb2) hb3) _
  have hx0 : (w3.alloc (.cells #[.slice (some ⟨f, 0, none⟩) n n, .slice (some ⟨g, 0, none⟩) n n, .string (strL (tabL kk LL))] 24)).cell? ⟨w3.heap.size, 0, none⟩ = some (.slice (some ⟨f, 0, none⟩) n n) := by rw [Lib.cell_of_heap (heap_alloc_new _ _)]; rfl
  have hx1 : (w3.alloc (.cells #[.slice (some ⟨f, 0, none⟩) n n, .slice (some ⟨g, 0, none⟩) n n, .string (strL (tabL kk LL))] 24)).cell? ⟨w3.heap.size, 1, none⟩ = some (.slice (some ⟨g, 0, none⟩) n n) := by rw [Lib.cell_of_heap (heap_alloc_new _ _)]; rfl
  have hx2 : (w3.alloc (.cells #[.slice (some ⟨f, 0, none⟩) n n, .slice (some ⟨g, 0, none⟩) n n, .string (strL (tabL kk LL))] 24)).cell? ⟨w3.heap.size, 2, none⟩ = some (.string (strL (tabL kk LL))) := by rw [Lib.cell_of_heap (heap_alloc_new _ _)]; rfl
  have HIW : Hid (∀ j, j < n → (w3.alloc (.cells #[.slice (some ⟨f, 0, none⟩) n n, .slice (some ⟨g, 0, none⟩) n n, .string (strL (tabL kk LL))] 24)).cell? ⟨g, j, none⟩ = some (.string (strL (iAt kk LL j)))) := fun j hj => by
    rw [Lib.cell_of_heap (hupE hrg _)]; exact rowAt_full _ _ _ hj
  have HFW : Hid (∀ j, j < n → (w3.alloc (.cells #[.slice (some ⟨f, 0, none⟩) n n, .slice (some ⟨g, 0, none⟩) n n, .string (strL (tabL kk LL))] 24)).cell? ⟨f, j, none⟩ = some (.string (strL (fAt kk LL j)))) := fun j hj => by
    rw [Lib.cell_of_heap (hupE hrf _)]; exact rowAt_full _ _ _ hj
  have hfl : f < (w3.alloc (.cells #[.slice (some ⟨f, 0, none⟩) n n, .slice (some ⟨g, 0, none⟩) n n, .string (strL (tabL kk LL))] 24)).heap.size := (Array.getElem?_eq_some_iff.1 (hupE hrf (.cells #[.slice (some ⟨f, 0, none⟩) n n, .slice (some ⟨g, 0, none⟩) n n, .string (strL (tabL kk LL))] 24))).1
  have hgl : g < (w3.alloc (.cells #[.slice (some ⟨f, 0, none⟩) n n, .slice (some ⟨g, 0, none⟩) n n, .string (strL (tabL kk LL))] 24)).heap.size := (Array.getElem?_eq_some_iff.1 (hupE hrg (.cells #[.slice (some ⟨f, 0, none⟩) n n, .slice (some ⟨g, 0, none⟩) n n, .string (strL (tabL kk LL))] 24))).1
  have hwl : w3.heap.size < (w3.alloc (.cells #[.slice (some ⟨f, 0, none⟩) n n, .slice (some ⟨g, 0, none⟩) n n, .string (strL (tabL kk LL))] 24)).heap.size := by simp
  have HCW : Hid (∀ j, j < n → ∃ b off, ao = some ⟨b, off, none⟩ ∧ (w3.alloc (.cells #[.slice (some ⟨f, 0, none⟩) n n, .slice (some ⟨g, 0, none⟩) n n, .string (strL (tabL kk LL))] 24)).cell? ⟨b, off + j, none⟩ = some (.string (KL.getD j .empty))) := fun j hj => by
    obtain ⟨b, off, e, hb, hc⟩ := HCL.out j hj
    exact ⟨b, off, e, ((bup (bel3' hb2 hb3) _).cell (p := ⟨b, off + j, none⟩) hb).trans hc⟩
  have HTT : Hid (∀ k, (tabL k LL).length ≤ 4000000) := fun k => by rw [hLL]; have := tab_tot k KL; have := HB.out.1; omega
  have hnb : n ≤ 1100000 := by have h1 := HN.out; have h2 := HB.out.1; have h3 := HB.out.2; omega
  have hnbi : (n : Int) ≤ 1100000 := by omega
  generalize w3.alloc (.cells #[.slice (some ⟨f, 0, none⟩) n n, .slice (some ⟨g, 0, none⟩) n n, .string (strL (tabL kk LL))] 24) = wb at *
  clear hrf hrg hb1 hb2 hb3 hT1 hT2 hrow2 hown2 HK HW HTw HE HNm HO1 HCL hLL hfg hf0 hg0 HT
  have HXb : Hid (MaxLenAt wb) := HX.out.on HBL.out
  have HX0 := hidE (And.intro hx0 (And.intro hx1 hx2))
  have HLT := hidE (And.intro hfl (And.intro hgl hwl))
  clear hx0 hx1 hx2 hfl hgl hwl
  go_loopw [11] (fun i wx => ∃ j : Nat, j ≤ n ∧ i = .int .i64 j ∧ Below wb.heap.size wb wx) (fun i _ => n - (intOf i).toNat)
  case atStart => exact ⟨0, Nat.zero_le _, rfl, Below.refl _ _⟩
  case round =>
    obtain ⟨j, hj, rfl, hbx⟩ := hrel
    rename World => wx
    by_cases hjn : j < n
    · obtain ⟨b, off, rfl, hcw⟩ := HCW.out j hjn
      obtain ⟨s, hs⟩ : ∃ s, s = KL.getD j .empty := ⟨_, rfl⟩
      rw [← hs] at hcw
      have hjk : j < KL.length := by have := HN.out; omega
      have hjI : (j : Int) < (n : Int) := by omega
      have hj0 : (0 : Int) ≤ (j : Int) := by omega
      have hsz : s.size ≤ 1100000 := by rw [hs]; have h1 := size_tot KL j hjk; have := HB.out.1; omega
      have hLj : LL[j]? = some s.data.toList := by
        rw [HLL.out, List.getElem?_map, List.getElem?_eq_getElem hjk, hs]
        simp [List.getD, List.getElem?_eq_getElem hjk]
      have hvs : validL s.data.toList = true := by rw [hs]; exact HVL.out j hjk
      have hBK : ∀ w', Below wb.heap.size wb w' → _ := fun w' hb' => back_c kk hk3 LL j s.data.toList hLj hvs (by simpa using hsz) (Nat.le_trans (tab_mono kk LL j) (HTT.out kk)) (HTT.out kk) a2 (by omega) w' (HXb.out.on hb')
      have HSd : Hid (∀ w', Below wb.heap.size wb w' → Calls Tryd.prog 23 #[.int .i64 kk, .string (strL (fAt kk LL j))] w' fun e w'' => e = .returned (.bool true) ∧ Below wb.heap.size wb w'') := fun w' hb' => (hBK w' hb').1.mono fun e w'' ⟨he, hb2⟩ => ⟨he, bel3' hb' hb2⟩
      have HRd : Hid (∀ w', Below wb.heap.size wb w' → Calls Tryd.prog 24 #[.string (strL (fAt kk LL j)), .string (strL (iAt kk LL j)), .string a2, .string (strL (tabL kk LL))] w' fun e w'' => e = .returned (.tuple #[.string s, .string a2, .bool true]) ∧ Below wb.heap.size wb w'') := fun w' hb' => (hBK w' hb').2.mono fun e w'' ⟨he, hb2⟩ => ⟨by rw [he, strL_of], bel3' hb' hb2⟩
      have HCE : Hid (∀ w', Below wb.heap.size wb w' → w'.cell? ⟨w3.heap.size, 0, none⟩ = some (.slice (some ⟨f, 0, none⟩) n n) ∧ w'.cell? ⟨w3.heap.size, 1, none⟩ = some (.slice (some ⟨g, 0, none⟩) n n) ∧ w'.cell? ⟨w3.heap.size, 2, none⟩ = some (.string (strL (tabL kk LL))) ∧ w'.cell? ⟨f, j, none⟩ = some (.string (strL (fAt kk LL j))) ∧ w'.cell? ⟨g, j, none⟩ = some (.string (strL (iAt kk LL j))) ∧ w'.cell? ⟨b, off + j, none⟩ = some (.string s)) := fun w' hb' =>
        ⟨(hb'.cell (p := ⟨w3.heap.size, 0, none⟩) HLT.out.2.2).trans HX0.out.1, (hb'.cell (p := ⟨w3.heap.size, 1, none⟩) HLT.out.2.2).trans HX0.out.2.1, (hb'.cell (p := ⟨w3.heap.size, 2, none⟩) HLT.out.2.2).trans HX0.out.2.2,
          (hb'.cell (p := ⟨f, j, none⟩) HLT.out.1).trans (HFW.out j hjn), (hb'.cell (p := ⟨g, j, none⟩) HLT.out.2.1).trans (HIW.out j hjn), (hb'.cell (p := ⟨b, off + j, none⟩) (block_lt_of_cell hcw)).trans hcw⟩
      clear hs hLj hvs hBK hcw hjk hsz
      generalize strL (fAt kk LL j) = F at *
      generalize strL (iAt kk LL j) = I at *
      generalize strL (tabL kk LL) = TT at *
      obtain ⟨c0, c1, c2, c3, c4, c5⟩ := HCE.out wx hbx
      go_wp2_with (first
        | (go_at_call 23; refine (HSd.out _ hbx).mono ?_; rintro e w4 ⟨rfl, hb4⟩; obtain ⟨d0, d1, d2, d3, d4, d5⟩ := HCE.out w4 hb4))
      clear c0 c1 c2 c3 c4 c5 hbx HX0 HLT HFW HIW HCW HLL HTT HN HB HVL HX HXb HBL HSd
      have hS4 : (fun w' => Below wb.heap.size wb w' ∧ w'.cell? ⟨w3.heap.size, 0, none⟩ = some (.slice (some ⟨f, 0, none⟩) n n) ∧ w'.cell? ⟨w3.heap.size, 1, none⟩ = some (.slice (some ⟨g, 0, none⟩) n n) ∧ w'.cell? ⟨w3.heap.size, 2, none⟩ = some (.string TT) ∧ w'.cell? ⟨f, j, none⟩ = some (.string F) ∧ w'.cell? ⟨g, j, none⟩ = some (.string I) ∧ w'.cell? ⟨b, off + j, none⟩ = some (.string s)) w4 := ⟨hb4, d0, d1, d2, d3, d4, d5⟩
      go_region_held3 (fun w' => Below wb.heap.size wb w' ∧ w'.cell? ⟨w3.heap.size, 0, none⟩ = some (.slice (some ⟨f, 0, none⟩) n n) ∧ w'.cell? ⟨w3.heap.size, 1, none⟩ = some (.slice (some ⟨g, 0, none⟩) n n) ∧ w'.cell? ⟨w3.heap.size, 2, none⟩ = some (.string TT) ∧ w'.cell? ⟨f, j, none⟩ = some (.string F) ∧ w'.cell? ⟨g, j, none⟩ = some (.string I) ∧ w'.cell? ⟨b, off + j, none⟩ = some (.string s)) (first | assumption | exact And.imp Below.drew id (by assumption)) (first | (go_at_call 24; refine (HRd.out _ (by first | assumption | exact hb4.drew)).mono ?_; rintro e w5 ⟨rfl, hb5⟩; obtain ⟨e0, e1, e2, e3, e4, e5⟩ := HCE.out w5 hb5; have hS5 : (fun w' => Below wb.heap.size wb w' ∧ w'.cell? ⟨w3.heap.size, 0, none⟩ = some (.slice (some ⟨f, 0, none⟩) n n) ∧ w'.cell? ⟨w3.heap.size, 1, none⟩ = some (.slice (some ⟨g, 0, none⟩) n n) ∧ w'.cell? ⟨w3.heap.size, 2, none⟩ = some (.string TT) ∧ w'.cell? ⟨f, j, none⟩ = some (.string F) ∧ w'.cell? ⟨g, j, none⟩ = some (.string I) ∧ w'.cell? ⟨b, off + j, none⟩ = some (.string s)) w5 := ⟨hb5, e0, e1, e2, e3, e4, e5⟩))
      all_goals
        go_wp2
        go_roundw
        case rel => exact ⟨j + 1, hjn, by go_num, by assumption⟩
        case measure => clear HCE; simp [intOf]; omega
    · obtain rfl : j = n := by omega
      go_wp2
      go_ret
      exact ⟨rfl, bel3' HBL.out hbx⟩
theorem contract (H : Type) (enc : TypeId × Value → H) (W : World) (base : Nat) (args : Array Value) (ds gs : List (DataW H)) (before : List MemPlace)
    (hval : ∀ (j : Nat) t v, Tryd.f6.params[j]? = some t → args[j]? = some v → Value.okWide Tryd.prog W .any base t v)
    (hW : DataW.Whole enc Tryd.prog Tryd.f6.params.toList Rows.namesBackSpec.vars false W args.toList ds gs before) (hL : laidMetH Tryd.prog Rows.namesBackUptoRow.laid W) (hSh : W.ShapedOpen Tryd.prog) (hk : Rows.uptoSmall H (ds ++ gs) = true) :
    Calls Tryd.prog 6 args W fun e W' => ∃ v, e = .returned v ∧ Rows.namesBackSpec.post enc Tryd.prog Tryd.f6 false true false false W args v W' := by
  have hW' := hW
  obtain ⟨p, q, hA0, hV, rfl, hfz, hnd⟩ := hW
  have hA : DataW.TrodAll enc Tryd.prog W 0 (fun _ => true) true Tryd.f6.params.toList args.toList ds p := hA0
  rw [Tryd.params6] at hA hval
  obtain ⟨v0, vs0, d0, ds0, p0, q0, hargs, rfl, rfl, h0, r0⟩ := trodAll_cons hA
  obtain ⟨v1, vs1, d1, ds1, p1, q1, rfl, rfl, rfl, h1, r1⟩ := trodAll_cons r0
  obtain ⟨v2, vs2, d2, ds2, p2, q2, rfl, rfl, rfl, h2, r2⟩ := trodAll_cons r1
  obtain ⟨rfl, rfl, rfl⟩ := trodAll_nil r2
  obtain rfl : args = #[v0, v1, v2] := by have h := congrArg List.toArray hargs; rw [Array.toArray_toList] at h; exact h
  obtain ⟨rfl, rfl⟩ := trodVars_none hV
  simp only [List.append_nil] at hk
  have hBk : Rows.uptoBulkAll [d0, d1, d2] ≤ 1048576 := of_decide_eq_true hk
  have bk1 : Rows.uptoBulk d1 ≤ 1048576 := Nat.le_trans (bulk_mem _ _ (by simp)) hBk
  have bk2 : Rows.uptoBulk d2 ≤ 1048576 := Nat.le_trans (bulk_mem _ _ (by simp)) hBk
  obtain ⟨a0, rfl, rfl, rfl, w0⟩ := open_int Tryd.underlying3 (hval 0 3 v0 rfl rfl) h0
  obtain ⟨a1, len1, cap1, rfl⟩ := okWide_slice Tryd.underlying22 (hval 1 22 v1 rfl rfl)
  have k1 := h1
  have lt1 : ∀ x ∈ p1, x.block < W.heap.size := by obtain ⟨m, hm⟩ := k1; exact DataW.trod_lt m _ _ _ hm
  obtain ⟨l1, w1, t1⟩ : ∃ l, RowS W (.slice a1 len1 cap1) l ∧ tot l ≤ 1048575 := by
    obtain ⟨fuel, hf⟩ := h1
    rcases open_strings Tryd.underlying22 Tryd.underlying9 (by kernel_rfl) hf with ⟨hcs, _⟩ | ⟨x, l, c, ss, hcs, _, hl, hm, hz, hd, hcell, hwz⟩
    · simp [Value.cells] at hcs
      obtain ⟨rfl, rfl, rfl⟩ := hcs
      exact ⟨[], .inl ⟨rfl, _, _, rfl⟩, by simp [tot]⟩
    · simp [Value.cells] at hcs
      obtain ⟨rfl, rfl, rfl⟩ := hcs
      have hd' := congrArg Prod.fst hd
      simp only [] at hd'
      subst hd'
      have hlen : ss.length = cap1 := by simpa using hz
      refine ⟨ss.take len1, ?_, ?_⟩
      · rcases Nat.eq_zero_or_pos len1 with h0 | h0
        · subst h0
          exact .inl ⟨by simp, _, _, rfl⟩
        · obtain ⟨b, off, spot⟩ := x
          have hc := hcell 0 (by omega)
          have hspot : spot = none := by simpa [Addr.add] using World.cell?_spot hc
          subst hspot
          refine .inr ⟨b, off, cap1, by rw [List.length_take, hlen, Nat.min_eq_left hl], fun j hj => ?_⟩
          rw [List.length_take, hlen, Nat.min_eq_left hl] at hj
          have hc := hcell j (by omega)
          have e : (⟨b, off, none⟩ : Addr).add j = ⟨b, off + j, none⟩ := by
            unfold Addr.add
            split
            · simp_all
            · simp
          rw [e] at hc
          rw [hc]
          simp [List.getD, hj]
      · simp only [Rows.uptoBulk, bulk_strs] at bk1
        omega
  obtain ⟨a2, rfl, rfl, rfl, w2⟩ := open_string Tryd.underlying9 (hval 2 9 v2 rfl rfl) h2
  have l2 : a2.size ≤ 1048576 := by
    have e : a2.data.toList.length = a2.size := by rw [Array.length_toList]; rfl
    simp only [Rows.uptoBulk] at bk2; omega
  clear hA0
  simp only [List.append_nil] at hW'
  refine (walk W a0 w0 _ l1 w1 t1 a2 w2 l2 (tabs_of hL) (Go.Proofs.cell_of_shapedOpen_int (zero := #[.int .i64 0]) (t := 3) hSh (of_decide_eq_true (by kernel_rfl)) (by kernel_rfl) rfl (by kernel_rfl) (by kernel_rfl) Tryd.underlying3)).mono fun e W' ⟨he, hg⟩ => ?_
  subst he
  exact ⟨_, rfl, _, _, _, [], _, [], hW', trodAll_cons_mk (shut_bool Tryd.underlying4 _) trodAll_mk0, (trodAll_cons_mk (shut_int Tryd.underlying3 w0) (trodAll_cons_mk (Below.trod laidOut (by kernel_rfl) (of_decide_eq_true (by kernel_rfl)) k1 hg lt1) (trodAll_cons_mk (shut_string Tryd.underlying9 w2) trodAll_mk0))), rfl, hg.frame _, fun h => by cases h⟩
theorem laid_met (os : Os) : laidMet Tryd.prog Rows.namesBackUptoRow.laid (({ (World.holding Tryd.prog os ⟨#[], #[], []⟩) with heap := ((((((World.holding Tryd.prog os ⟨#[], #[], []⟩).heap.modify 2 fun
      | .cells _ t frozen => .cells #[.int .u8 0, .int .u8 1, .int .u8 28, .int .u8 2, .int .u8 29, .int .u8 14, .int .u8 24, .int .u8 3, .int .u8 30, .int .u8 22, .int .u8 20, .int .u8 15, .int .u8 25, .int .u8 17, .int .u8 4, .int .u8 8, .int .u8 31, .int .u8 27, .int .u8 13, .int .u8 23, .int .u8 21, .int .u8 19, .int .u8 16, .int .u8 7, .int .u8 26, .int .u8 12, .int .u8 18, .int .u8 6, .int .u8 11, .int .u8 5, .int .u8 10, .int .u8 9] t frozen
      | o => o).modify 3 fun
      | .cells _ t frozen => .cells #[.int .u8 0, .int .u8 1, .int .u8 56, .int .u8 2, .int .u8 57, .int .u8 49, .int .u8 28, .int .u8 3, .int .u8 61, .int .u8 58, .int .u8 42, .int .u8 50, .int .u8 38, .int .u8 29, .int .u8 17, .int .u8 4, .int .u8 62, .int .u8 47, .int .u8 59, .int .u8 36, .int .u8 45, .int .u8 43, .int .u8 51, .int .u8 22, .int .u8 53, .int .u8 39, .int .u8 33, .int .u8 30, .int .u8 24, .int .u8 18, .int .u8 12, .int .u8 5, .int .u8 63, .int .u8 55, .int .u8 48, .int .u8 27, .int .u8 60, .int .u8 41, .int .u8 37, .int .u8 16, .int .u8 46, .int .u8 35, .int .u8 44, .int .u8 21, .int .u8 52, .int .u8 32, .int .u8 23, .int .u8 11, .int .u8 54, .int .u8 26, .int .u8 40, .int .u8 15, .int .u8 34, .int .u8 20, .int .u8 31, .int .u8 10, .int .u8 25, .int .u8 14, .int .u8 19, .int .u8 9, .int .u8 13, .int .u8 8, .int .u8 7, .int .u8 6] t frozen
      | o => o).modify 0 fun
      | .cells _ t frozen => .cells #[.int .u64 1, .int .u64 10, .int .u64 100, .int .u64 1000, .int .u64 10000, .int .u64 100000, .int .u64 1000000, .int .u64 10000000, .int .u64 100000000, .int .u64 1000000000, .int .u64 10000000000, .int .u64 100000000000, .int .u64 1000000000000, .int .u64 10000000000000, .int .u64 100000000000000, .int .u64 1000000000000000, .int .u64 10000000000000000, .int .u64 100000000000000000, .int .u64 1000000000000000000, .int .u64 10000000000000000000] t frozen
      | o => o).modify 5 fun
      | .cells _ t frozen => .cells #[.int .u8 128, .int .u8 191, .int .u8 160, .int .u8 191, .int .u8 128, .int .u8 159, .int .u8 144, .int .u8 191, .int .u8 128, .int .u8 143, .int .u8 0, .int .u8 0, .int .u8 0, .int .u8 0, .int .u8 0, .int .u8 0, .int .u8 0, .int .u8 0, .int .u8 0, .int .u8 0, .int .u8 0, .int .u8 0, .int .u8 0, .int .u8 0, .int .u8 0, .int .u8 0, .int .u8 0, .int .u8 0, .int .u8 0, .int .u8 0, .int .u8 0, .int .u8 0] t frozen
      | o => o).modify 4 fun
      | .cells _ t frozen => .cells (Go.Pinned.utf8FirstZ.map fun (n : Nat) => Value.int .u8 n).toArray t frozen
      | o => o) } : World).forCall (fun _ _ => 0) ⟨#[], #[.int .i64 0, .slice none 0 0, .string ByteArray.empty], []⟩).memory :=
  laidMet_of_run' 8 (by kernel_rfl) (by kernel_rfl)
theorem reads (os : Os) {H : Type} (enc : TypeId × Value → H) : ∃ places, DataW.whole enc Tryd.prog (({ (World.holding Tryd.prog os ⟨#[], #[], []⟩) with heap := ((((((World.holding Tryd.prog os ⟨#[], #[], []⟩).heap.modify 2 fun
      | .cells _ t frozen => .cells #[.int .u8 0, .int .u8 1, .int .u8 28, .int .u8 2, .int .u8 29, .int .u8 14, .int .u8 24, .int .u8 3, .int .u8 30, .int .u8 22, .int .u8 20, .int .u8 15, .int .u8 25, .int .u8 17, .int .u8 4, .int .u8 8, .int .u8 31, .int .u8 27, .int .u8 13, .int .u8 23, .int .u8 21, .int .u8 19, .int .u8 16, .int .u8 7, .int .u8 26, .int .u8 12, .int .u8 18, .int .u8 6, .int .u8 11, .int .u8 5, .int .u8 10, .int .u8 9] t frozen
      | o => o).modify 3 fun
      | .cells _ t frozen => .cells #[.int .u8 0, .int .u8 1, .int .u8 56, .int .u8 2, .int .u8 57, .int .u8 49, .int .u8 28, .int .u8 3, .int .u8 61, .int .u8 58, .int .u8 42, .int .u8 50, .int .u8 38, .int .u8 29, .int .u8 17, .int .u8 4, .int .u8 62, .int .u8 47, .int .u8 59, .int .u8 36, .int .u8 45, .int .u8 43, .int .u8 51, .int .u8 22, .int .u8 53, .int .u8 39, .int .u8 33, .int .u8 30, .int .u8 24, .int .u8 18, .int .u8 12, .int .u8 5, .int .u8 63, .int .u8 55, .int .u8 48, .int .u8 27, .int .u8 60, .int .u8 41, .int .u8 37, .int .u8 16, .int .u8 46, .int .u8 35, .int .u8 44, .int .u8 21, .int .u8 52, .int .u8 32, .int .u8 23, .int .u8 11, .int .u8 54, .int .u8 26, .int .u8 40, .int .u8 15, .int .u8 34, .int .u8 20, .int .u8 31, .int .u8 10, .int .u8 25, .int .u8 14, .int .u8 19, .int .u8 9, .int .u8 13, .int .u8 8, .int .u8 7, .int .u8 6] t frozen
      | o => o).modify 0 fun
      | .cells _ t frozen => .cells #[.int .u64 1, .int .u64 10, .int .u64 100, .int .u64 1000, .int .u64 10000, .int .u64 100000, .int .u64 1000000, .int .u64 10000000, .int .u64 100000000, .int .u64 1000000000, .int .u64 10000000000, .int .u64 100000000000, .int .u64 1000000000000, .int .u64 10000000000000, .int .u64 100000000000000, .int .u64 1000000000000000, .int .u64 10000000000000000, .int .u64 100000000000000000, .int .u64 1000000000000000000, .int .u64 10000000000000000000] t frozen
      | o => o).modify 5 fun
      | .cells _ t frozen => .cells #[.int .u8 128, .int .u8 191, .int .u8 160, .int .u8 191, .int .u8 128, .int .u8 159, .int .u8 144, .int .u8 191, .int .u8 128, .int .u8 143, .int .u8 0, .int .u8 0, .int .u8 0, .int .u8 0, .int .u8 0, .int .u8 0, .int .u8 0, .int .u8 0, .int .u8 0, .int .u8 0, .int .u8 0, .int .u8 0, .int .u8 0, .int .u8 0, .int .u8 0, .int .u8 0, .int .u8 0, .int .u8 0, .int .u8 0, .int .u8 0, .int .u8 0, .int .u8 0] t frozen
      | o => o).modify 4 fun
      | .cells _ t frozen => .cells (Go.Pinned.utf8FirstZ.map fun (n : Nat) => Value.int .u8 n).toArray t frozen
      | o => o) } : World).forCall (fun _ _ => 0) ⟨#[], #[.int .i64 0, .slice none 0 0, .string ByteArray.empty], []⟩).memory Tryd.f6.params.toList Rows.namesBackSpec.vars false (#[.int .i64 0, .slice none 0 0, .string ByteArray.empty] : Array Value).toList 8 = some ([.lit (.int .i64 0), .nil, .lit (.string [])], [], places) :=
  ⟨[], by kernel_rfl⟩
set_option maxRecDepth 100000 in
theorem lifted (os : Os) (started : os.Started) (H : Type) (enc : TypeId × Value → H) (F : Stop.Interp) :
    ReturnsInHanded {} Tryd.checked os 6 .any ((Rows.OpenSpec.upto Rows.namesBackSpec).preRow enc Tryd.prog Tryd.f6 Rows.namesBackUptoRow.domain false Rows.namesBackUptoRow.laid) (((Rows.OpenSpec.upto Rows.namesBackSpec).at F).post enc Tryd.prog Tryd.f6 false true false false) := by
  obtain ⟨places, hx⟩ := reads os enc
  refine returnsInHanded_of_row (C := Tryd.checked) (s := (Rows.OpenSpec.upto Rows.namesBackSpec)) own started (by kernel_rfl) Tryd.func6
    (witness_row_at (enc := enc) (C := Tryd.checked) false ({ (World.holding Tryd.prog os ⟨#[], #[], []⟩) with heap := ((((((World.holding Tryd.prog os ⟨#[], #[], []⟩).heap.modify 2 fun
      | .cells _ t frozen => .cells #[.int .u8 0, .int .u8 1, .int .u8 28, .int .u8 2, .int .u8 29, .int .u8 14, .int .u8 24, .int .u8 3, .int .u8 30, .int .u8 22, .int .u8 20, .int .u8 15, .int .u8 25, .int .u8 17, .int .u8 4, .int .u8 8, .int .u8 31, .int .u8 27, .int .u8 13, .int .u8 23, .int .u8 21, .int .u8 19, .int .u8 16, .int .u8 7, .int .u8 26, .int .u8 12, .int .u8 18, .int .u8 6, .int .u8 11, .int .u8 5, .int .u8 10, .int .u8 9] t frozen
      | o => o).modify 3 fun
      | .cells _ t frozen => .cells #[.int .u8 0, .int .u8 1, .int .u8 56, .int .u8 2, .int .u8 57, .int .u8 49, .int .u8 28, .int .u8 3, .int .u8 61, .int .u8 58, .int .u8 42, .int .u8 50, .int .u8 38, .int .u8 29, .int .u8 17, .int .u8 4, .int .u8 62, .int .u8 47, .int .u8 59, .int .u8 36, .int .u8 45, .int .u8 43, .int .u8 51, .int .u8 22, .int .u8 53, .int .u8 39, .int .u8 33, .int .u8 30, .int .u8 24, .int .u8 18, .int .u8 12, .int .u8 5, .int .u8 63, .int .u8 55, .int .u8 48, .int .u8 27, .int .u8 60, .int .u8 41, .int .u8 37, .int .u8 16, .int .u8 46, .int .u8 35, .int .u8 44, .int .u8 21, .int .u8 52, .int .u8 32, .int .u8 23, .int .u8 11, .int .u8 54, .int .u8 26, .int .u8 40, .int .u8 15, .int .u8 34, .int .u8 20, .int .u8 31, .int .u8 10, .int .u8 25, .int .u8 14, .int .u8 19, .int .u8 9, .int .u8 13, .int .u8 8, .int .u8 7, .int .u8 6] t frozen
      | o => o).modify 0 fun
      | .cells _ t frozen => .cells #[.int .u64 1, .int .u64 10, .int .u64 100, .int .u64 1000, .int .u64 10000, .int .u64 100000, .int .u64 1000000, .int .u64 10000000, .int .u64 100000000, .int .u64 1000000000, .int .u64 10000000000, .int .u64 100000000000, .int .u64 1000000000000, .int .u64 10000000000000, .int .u64 100000000000000, .int .u64 1000000000000000, .int .u64 10000000000000000, .int .u64 100000000000000000, .int .u64 1000000000000000000, .int .u64 10000000000000000000] t frozen
      | o => o).modify 5 fun
      | .cells _ t frozen => .cells #[.int .u8 128, .int .u8 191, .int .u8 160, .int .u8 191, .int .u8 128, .int .u8 159, .int .u8 144, .int .u8 191, .int .u8 128, .int .u8 143, .int .u8 0, .int .u8 0, .int .u8 0, .int .u8 0, .int .u8 0, .int .u8 0, .int .u8 0, .int .u8 0, .int .u8 0, .int .u8 0, .int .u8 0, .int .u8 0, .int .u8 0, .int .u8 0, .int .u8 0, .int .u8 0, .int .u8 0, .int .u8 0, .int .u8 0, .int .u8 0, .int .u8 0, .int .u8 0] t frozen
      | o => o).modify 4 fun
      | .cells _ t frozen => .cells (Go.Pinned.utf8FirstZ.map fun (n : Nat) => Value.int .u8 n).toArray t frozen
      | o => o) } : World) #[.int .i64 0, .slice none 0 0, .string ByteArray.empty] rfl (by kernel_rfl) (by kernel_rfl) (by kernel_rfl)
      (OpenSpec.preRow_of_cond 8 hx (by kernel_rfl) (fun k hk => by cases hk; rfl) (by kernel_rfl) (laid_met os))) ?_
  intro W base args ds gs before hval hW _ hcond _ hL hSh _
  exact contract H enc W base args ds gs before hval hW hL hSh (hcond _ rfl)
theorem said : Rows.NamesBackUptoSaid :=
  OpenClaim.holds_of_cond 6 Tryd.f6 rfl rfl rfl rfl rfl rfl rfl ⟨rfl, rfl, rfl, rfl, rfl⟩ rfl rfl rfl rfl rfl (by kernel_rfl) Tryd.func6 (by kernel_rfl)
    (of_decide_eq_true (by kernel_rfl)) (by unfold Func.isWrapper; first | (rw [if_pos (by decide +kernel)]; kernel_rfl) | (rw [if_neg (by decide +kernel)]; exact ⟨rfl, rfl⟩))
    (fun os started H enc _ F => by rw [OpenClaim.pre_eq_preRow]; exact lifted os started H enc F)
theorem plain (f : FuncId) (fn : Func) (hf : Tryd.pinned.checked.prog.funcNamed "shelf/shelflaw8.NamesBack" = some f) (hfn : Tryd.pinned.checked.prog.funcs[f]? = some fn) :
    true = Tryd.pinned.checked.prog.looks [] ∧ ∀ (j : Nat) t, fn.params[j]? = some t → Tryd.pinned.checked.prog.wantsStandIn t = false := by
  obtain rfl : f = 6 := Option.some.inj ((show Tryd.prog.funcNamed "shelf/shelflaw8.NamesBack" = some 6 by kernel_rfl).symm.trans hf) |>.symm
  obtain rfl : fn = Tryd.f6 := (Option.some.inj (Tryd.func6.symm.trans hfn)).symm
  refine ⟨by kernel_rfl, fun j t ht => ?_⟩
  rw [Tryd.params6] at ht
  have hmem := Array.mem_of_getElem? ht
  have s9 : Tryd.pinned.checked.prog.wantsStandIn 9 = false := by kernel_rfl
  have s3 : Tryd.pinned.checked.prog.wantsStandIn 3 = false := by kernel_rfl
  have sH : Tryd.pinned.checked.prog.wantsStandIn 22 = false := by kernel_rfl
  simp at hmem
  first
    | (rcases hmem with rfl | rfl | rfl <;> assumption)
    | (rcases hmem with rfl | rfl <;> assumption)
    | (subst hmem; assumption)
theorem card : Rows.NamesBackUptoCardSaid :=
  Claim7.holds_tied_plain_at .later [] _ _ _ _ said (fun _ h => by cases h) (by kernel_rfl) (fun _ h => by cases h) namesBackUpto_row_tie rfl ⟨rfl, rfl⟩ (by kernel_rfl) rfl plain (by kernel_rfl)
end Go.Proofs.YtmppfpkcnhcfbabDoor.namesBack
namespace Go.Proofs.YtmppfpkcnhcfbabDoor
theorem namesBack_holds : Rows.NamesBackUptoCardSaid := namesBack.card
#print axioms namesBack_holds
end Go.Proofs.YtmppfpkcnhcfbabDoor
