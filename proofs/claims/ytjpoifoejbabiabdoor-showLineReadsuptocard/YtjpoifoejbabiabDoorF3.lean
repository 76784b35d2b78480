
-- The document's own runes: which run stands here.
import Derived.Test.YtjpoifoejbabiabDoorF2
import Derived.Deep.MidRow
namespace Go.Proofs.YtjpoifoejbabiabDoor
open Go.RowKit
set_option linter.unusedVariables false
set_option maxRecDepth 100000
theorem runLen_at (l : List UInt8) (k : Nat) (f : List (Nat × Nat)) (rest : List (List (Nat × Nat))) (hd : formsL.drop k = f :: rest) (hn : ∀ g ∈ formsL.take k, fitsL g l = false) (hf : fitsL f l = true) : runLen l = f.length := by
  unfold runLen
  have e : formsL = formsL.take k ++ (f :: rest) := by rw [← hd, List.take_append_drop]
  have hnone : (formsL.take k).find? (fun f => fitsL f l) = none := by
    rw [List.find?_eq_none]
    intro g hg
    rw [hn g hg]; simp
  rw [e, List.find?_append, hnone]
  simp [hf]
theorem runLen_no (l : List UInt8) (hn : ∀ g ∈ formsL.take 9, fitsL g l = false) : runLen l = 0 := by
  unfold runLen
  have hnone : formsL.find? (fun f => fitsL f l) = none := by
    rw [List.find?_eq_none]
    intro g hg
    rw [hn g hg]; simp
  rw [hnone]
theorem none_step {l : List UInt8} {k : Nat} (hn : ∀ g ∈ formsL.take k, fitsL g l = false) (j : Nat) (hj : j = k ∧ j < formsL.length) (hf : fitsL (formsL.getD j []) l = false) : ∀ g ∈ formsL.take (j + 1), fitsL g l = false := by
  intro g hg
  obtain ⟨rfl, hlt⟩ := hj
  rw [List.take_add_one, List.getElem?_eq_getElem hlt, List.mem_append] at hg
  rcases hg with hg | hg
  · exact hn g hg
  · simp at hg
    subst hg
    simpa [List.getD, List.getElem?_eq_getElem hlt] using hf
def formsA : Array Value := formC 1 0 127 0 0 0 0 0 0 ++ formC 2 194 223 128 191 0 0 0 0 ++ formC 3 224 224 160 191 128 191 0 0 ++ formC 3 225 236 128 191 128 191 0 0 ++ formC 3 238 239 128 191 128 191 0 0 ++ formC 3 237 237 128 159 128 191 0 0 ++ formC 4 240 240 144 191 128 191 128 191 ++ formC 4 241 243 128 191 128 191 128 191 ++ formC 4 244 244 128 143 128 191 128 191
set_option maxHeartbeats 4000000 in
theorem runAt_c (s : ByteArray) (at_ : Nat) (w : World) (hm : s.size ≤ 4194304) (ha : at_ ≤ s.size) :
    Calls Tryd.prog 53 #[.string s, .int .i64 at_] w fun e w' => e = .returned (.int .i64 (runLen ((lsq s).drop at_))) ∧ Below w.heap.size w w' := by
  have HF : Hid (∀ w, Calls Tryd.prog 75 #[] w fun e w' => e = .returned (.slice (some ⟨w.heap.size + 1, 0, none⟩) 9 9) ∧ w' = (w.alloc (.cells #[.int .u8 128, .int .u8 191] 100)).alloc (.cells formsA 103)) := fun w => forms_c w
  obtain ⟨W0, hWd⟩ : ∃ W0, W0 = (w.alloc (.cells #[.int .u8 128, .int .u8 191] 100)).alloc (.cells formsA 103) := ⟨_, rfl⟩
  have hF0 : W0.heap[w.heap.size + 1]? = some (.cells formsA 103 (0, 0)) := by
    have := heap_alloc_new (w.alloc (.cells #[.int .u8 128, .int .u8 191] 100)) (.cells formsA 103)
    rw [hWd]; simpa using this
  have hW0 : Below w.heap.size w W0 := by rw [hWd]; exact ((Below.refl _ w).alloc (Nat.le_refl _) _).alloc (by simp) _
  have hWs := hW0.size
  have hFs : w.heap.size + 1 < W0.heap.size := (Array.getElem?_eq_some_iff.1 hF0).1
  have HF' : Hid (Calls Tryd.prog 75 #[] w fun e w' => e = .returned (.slice (some ⟨w.heap.size + 1, 0, none⟩) 9 9) ∧ w' = W0) := by rw [hWd]; exact HF.out w
  clear HF hWd
  go_enter Tryd.func53, Tryd.ntmps53
  go_wp2_with (go_at_call 75; refine (HF'.out).mono ?_; rintro e w1 ⟨rfl, hw1⟩; subst w1)
  go_loopw [6] (fun i wx => ∃ k : Nat, i = .int .i64 k ∧ k ≤ 9 ∧ Below W0.heap.size W0 wx ∧ ∀ g ∈ formsL.take k, fitsL g ((lsq s).drop at_) = false) (fun i _ => 9 - (intOf i).toNat)
  case atStart => exact ⟨0, rfl, by omega, Below.refl _ _, fun g hg => by simp at hg⟩
  case round =>
    obtain ⟨k, rfl, hk9, hbw, hno⟩ := hrel
    have HNO : Hid (∀ g ∈ formsL.take k, fitsL g ((lsq s).drop at_) = false) := hno
    have hbs := hbw.size
    have hFx : wr.heap[w.heap.size + 1]? = some (.cells formsA 103 (0, 0)) := (hbw.block _ hFs).trans hF0
    have hk : k = 0 ∨ k = 1 ∨ k = 2 ∨ k = 3 ∨ k = 4 ∨ k = 5 ∨ k = 6 ∨ k = 7 ∨ k = 8 ∨ k = 9 := by omega
    clear hno hF0 HF' hk9
    rcases hk with rfl | rfl | rfl | rfl | rfl | rfl | rfl | rfl | rfl | rfl
    · have HB : Hid (∀ w, Calls Tryd.prog 76 #[.agg (formC 1 0 127 0 0 0 0 0 0).toList.toArray, .string s, .int .i64 at_] w fun e w' => e = .returned (.bool (fitsL (formsL.getD 0 []) ((lsq s).drop at_))) ∧ Below w.heap.size w w') := fun w => fits_c 1 0 127 0 0 0 0 0 0 s at_ w (by decide) hm ha (by decide)
      have hrg : wr.rangeAt (w.heap.size + 1) 0 (formC 1 0 127 0 0 0 0 0 0).toList := World.rangeAt_of_block hFx 0 9
      have hsz : (Tryd.prog.info? 103).map (·.size) = some (formC 1 0 127 0 0 0 0 0 0).toList.length := by kernel_rfl
      have hce : ∀ w1 : World, Below wr.heap.size wr w1 → w1.cell? ⟨w.heap.size + 1, 0, none⟩ = some (.int .i64 1) := fun w1 hb => by
        rw [hb.cell (p := ⟨w.heap.size + 1, 0, none⟩) (by show w.heap.size + 1 < _; omega), Lib.cell_of_heap hFx]; rfl
      obtain ⟨cs, hcs⟩ : ∃ cs, cs = (formC 1 0 127 0 0 0 0 0 0).toList := ⟨_, rfl⟩
      rw [← hcs] at HB hrg hsz
      have HRG : Hid (wr.rangeAt (w.heap.size + 1) 0 cs) := hrg
      clear hcs hrg
      rcases hb : fitsL (formsL.getD 0 []) ((lsq s).drop at_) with _ | _
      · rw [hb] at HB
        have HNX : Hid (∀ g ∈ formsL.take (0 + 1), fitsL g ((lsq s).drop at_) = false) := none_step HNO.out 0 (by decide) hb
        clear hb HNO hce
        go_wp2_with (first
          | (refine wpList_load_mid rfl 103 _ rfl (w.heap.size + 1) 0 rfl cs _ HRG.out Tryd.underlying103 rfl hsz ?_)
          | (go_at_call 76; refine (HB.out _).mono ?_; rintro e w1 ⟨rfl, hb1⟩))
        go_roundw
        case rel => exact ⟨1, rfl, by omega, hbw.trans (hb1.mono hbs), HNX.out⟩
        case measure => simp [intOf]
      · rw [hb] at HB
        have HYES : Hid (runLen ((lsq s).drop at_) = 1) := runLen_at _ 0 _ _ rfl HNO.out hb
        clear hb HNO
        go_wp2_with (first
          | (refine wpList_load_mid rfl 103 _ rfl (w.heap.size + 1) 0 rfl cs _ HRG.out Tryd.underlying103 rfl hsz ?_)
          | (go_at_call 76; refine (HB.out _).mono ?_; rintro e w1 ⟨rfl, hb1⟩; have hce1 := hce w1 hb1))
        go_ret
        exact ⟨by rw [HYES.out]; rfl, hW0.trans ((hbw.trans (hb1.mono hbs)).mono hWs)⟩
    · have HB : Hid (∀ w, Calls Tryd.prog 76 #[.agg (formC 2 194 223 128 191 0 0 0 0).toList.toArray, .string s, .int .i64 at_] w fun e w' => e = .returned (.bool (fitsL (formsL.getD 1 []) ((lsq s).drop at_))) ∧ Below w.heap.size w w') := fun w => fits_c 2 194 223 128 191 0 0 0 0 s at_ w (by decide) hm ha (by decide)
      have hrg : wr.rangeAt (w.heap.size + 1) 9 (formC 2 194 223 128 191 0 0 0 0).toList := World.rangeAt_of_block hFx 9 9
      have hsz : (Tryd.prog.info? 103).map (·.size) = some (formC 2 194 223 128 191 0 0 0 0).toList.length := by kernel_rfl
      have hce : ∀ w1 : World, Below wr.heap.size wr w1 → w1.cell? ⟨w.heap.size + 1, 9, none⟩ = some (.int .i64 2) := fun w1 hb => by
        rw [hb.cell (p := ⟨w.heap.size + 1, 9, none⟩) (by show w.heap.size + 1 < _; omega), Lib.cell_of_heap hFx]; rfl
      obtain ⟨cs, hcs⟩ : ∃ cs, cs = (formC 2 194 223 128 191 0 0 0 0).toList := ⟨_, rfl⟩
      rw [← hcs] at HB hrg hsz
      have HRG : Hid (wr.rangeAt (w.heap.size + 1) 9 cs) := hrg
      clear hcs hrg
      rcases hb : fitsL (formsL.getD 1 []) ((lsq s).drop at_) with _ | _
      · rw [hb] at HB
        have HNX : Hid (∀ g ∈ formsL.take (1 + 1), fitsL g ((lsq s).drop at_) = false) := none_step HNO.out 1 (by decide) hb
        clear hb HNO hce
        go_wp2_with (first
          | (refine wpList_load_mid rfl 103 _ rfl (w.heap.size + 1) 9 rfl cs _ HRG.out Tryd.underlying103 rfl hsz ?_)
          | (go_at_call 76; refine (HB.out _).mono ?_; rintro e w1 ⟨rfl, hb1⟩))
        go_roundw
        case rel => exact ⟨2, rfl, by omega, hbw.trans (hb1.mono hbs), HNX.out⟩
        case measure => simp [intOf]
      · rw [hb] at HB
        have HYES : Hid (runLen ((lsq s).drop at_) = 2) := runLen_at _ 1 _ _ rfl HNO.out hb
        clear hb HNO
        go_wp2_with (first
          | (refine wpList_load_mid rfl 103 _ rfl (w.heap.size + 1) 9 rfl cs _ HRG.out Tryd.underlying103 rfl hsz ?_)
          | (go_at_call 76; refine (HB.out _).mono ?_; rintro e w1 ⟨rfl, hb1⟩; have hce1 := hce w1 hb1))
        go_ret
        exact ⟨by rw [HYES.out]; rfl, hW0.trans ((hbw.trans (hb1.mono hbs)).mono hWs)⟩
    · have HB : Hid (∀ w, Calls Tryd.prog 76 #[.agg (formC 3 224 224 160 191 128 191 0 0).toList.toArray, .string s, .int .i64 at_] w fun e w' => e = .returned (.bool (fitsL (formsL.getD 2 []) ((lsq s).drop at_))) ∧ Below w.heap.size w w') := fun w => fits_c 3 224 224 160 191 128 191 0 0 s at_ w (by decide) hm ha (by decide)
      have hrg : wr.rangeAt (w.heap.size + 1) 18 (formC 3 224 224 160 191 128 191 0 0).toList := World.rangeAt_of_block hFx 18 9
      have hsz : (Tryd.prog.info? 103).map (·.size) = some (formC 3 224 224 160 191 128 191 0 0).toList.length := by kernel_rfl
      have hce : ∀ w1 : World, Below wr.heap.size wr w1 → w1.cell? ⟨w.heap.size + 1, 18, none⟩ = some (.int .i64 3) := fun w1 hb => by
        rw [hb.cell (p := ⟨w.heap.size + 1, 18, none⟩) (by show w.heap.size + 1 < _; omega), Lib.cell_of_heap hFx]; rfl
      obtain ⟨cs, hcs⟩ : ∃ cs, cs = (formC 3 224 224 160 191 128 191 0 0).toList := ⟨_, rfl⟩
      rw [← hcs] at HB hrg hsz
      have HRG : Hid (wr.rangeAt (w.heap.size + 1) 18 cs) := hrg
      clear hcs hrg
      rcases hb : fitsL (formsL.getD 2 []) ((lsq s).drop at_) with _ | _
      · rw [hb] at HB
        have HNX : Hid (∀ g ∈ formsL.take (2 + 1), fitsL g ((lsq s).drop at_) = false) := none_step HNO.out 2 (by decide) hb
        clear hb HNO hce
        go_wp2_with (first
          | (refine wpList_load_mid rfl 103 _ rfl (w.heap.size + 1) 18 rfl cs _ HRG.out Tryd.underlying103 rfl hsz ?_)
          | (go_at_call 76; refine (HB.out _).mono ?_; rintro e w1 ⟨rfl, hb1⟩))
        go_roundw
        case rel => exact ⟨3, rfl, by omega, hbw.trans (hb1.mono hbs), HNX.out⟩
        case measure => simp [intOf]
      · rw [hb] at HB
        have HYES : Hid (runLen ((lsq s).drop at_) = 3) := runLen_at _ 2 _ _ rfl HNO.out hb
        clear hb HNO
        go_wp2_with (first
          | (refine wpList_load_mid rfl 103 _ rfl (w.heap.size + 1) 18 rfl cs _ HRG.out Tryd.underlying103 rfl hsz ?_)
          | (go_at_call 76; refine (HB.out _).mono ?_; rintro e w1 ⟨rfl, hb1⟩; have hce1 := hce w1 hb1))
        go_ret
        exact ⟨by rw [HYES.out]; rfl, hW0.trans ((hbw.trans (hb1.mono hbs)).mono hWs)⟩
    · have HB : Hid (∀ w, Calls Tryd.prog 76 #[.agg (formC 3 225 236 128 191 128 191 0 0).toList.toArray, .string s, .int .i64 at_] w fun e w' => e = .returned (.bool (fitsL (formsL.getD 3 []) ((lsq s).drop at_))) ∧ Below w.heap.size w w') := fun w => fits_c 3 225 236 128 191 128 191 0 0 s at_ w (by decide) hm ha (by decide)
      have hrg : wr.rangeAt (w.heap.size + 1) 27 (formC 3 225 236 128 191 128 191 0 0).toList := World.rangeAt_of_block hFx 27 9
      have hsz : (Tryd.prog.info? 103).map (·.size) = some (formC 3 225 236 128 191 128 191 0 0).toList.length := by kernel_rfl
      have hce : ∀ w1 : World, Below wr.heap.size wr w1 → w1.cell? ⟨w.heap.size + 1, 27, none⟩ = some (.int .i64 3) := fun w1 hb => by
        rw [hb.cell (p := ⟨w.heap.size + 1, 27, none⟩) (by show w.heap.size + 1 < _; omega), Lib.cell_of_heap hFx]; rfl
      obtain ⟨cs, hcs⟩ : ∃ cs, cs = (formC 3 225 236 128 191 128 191 0 0).toList := ⟨_, rfl⟩
      rw [← hcs] at HB hrg hsz
      have HRG : Hid (wr.rangeAt (w.heap.size + 1) 27 cs) := hrg
      clear hcs hrg
      rcases hb : fitsL (formsL.getD 3 []) ((lsq s).drop at_) with _ | _
      · rw [hb] at HB
        have HNX : Hid (∀ g ∈ formsL.take (3 + 1), fitsL g ((lsq s).drop at_) = false) := none_step HNO.out 3 (by decide) hb
        clear hb HNO hce
        go_wp2_with (first
          | (refine wpList_load_mid rfl 103 _ rfl (w.heap.size + 1) 27 rfl cs _ HRG.out Tryd.underlying103 rfl hsz ?_)
          | (go_at_call 76; refine (HB.out _).mono ?_; rintro e w1 ⟨rfl, hb1⟩))
        go_roundw
        case rel => exact ⟨4, rfl, by omega, hbw.trans (hb1.mono hbs), HNX.out⟩
        case measure => simp [intOf]
      · rw [hb] at HB
        have HYES : Hid (runLen ((lsq s).drop at_) = 3) := runLen_at _ 3 _ _ rfl HNO.out hb
        clear hb HNO
        go_wp2_with (first
          | (refine wpList_load_mid rfl 103 _ rfl (w.heap.size + 1) 27 rfl cs _ HRG.out Tryd.underlying103 rfl hsz ?_)
          | (go_at_call 76; refine (HB.out _).mono ?_; rintro e w1 ⟨rfl, hb1⟩; have hce1 := hce w1 hb1))
        go_ret
        exact ⟨by rw [HYES.out]; rfl, hW0.trans ((hbw.trans (hb1.mono hbs)).mono hWs)⟩
    · have HB : Hid (∀ w, Calls Tryd.prog 76 #[.agg (formC 3 238 239 128 191 128 191 0 0).toList.toArray, .string s, .int .i64 at_] w fun e w' => e = .returned (.bool (fitsL (formsL.getD 4 []) ((lsq s).drop at_))) ∧ Below w.heap.size w w') := fun w => fits_c 3 238 239 128 191 128 191 0 0 s at_ w (by decide) hm ha (by decide)
      have hrg : wr.rangeAt (w.heap.size + 1) 36 (formC 3 238 239 128 191 128 191 0 0).toList := World.rangeAt_of_block hFx 36 9
      have hsz : (Tryd.prog.info? 103).map (·.size) = some (formC 3 238 239 128 191 128 191 0 0).toList.length := by kernel_rfl
      have hce : ∀ w1 : World, Below wr.heap.size wr w1 → w1.cell? ⟨w.heap.size + 1, 36, none⟩ = some (.int .i64 3) := fun w1 hb => by
        rw [hb.cell (p := ⟨w.heap.size + 1, 36, none⟩) (by show w.heap.size + 1 < _; omega), Lib.cell_of_heap hFx]; rfl
      obtain ⟨cs, hcs⟩ : ∃ cs, cs = (formC 3 238 239 128 191 128 191 0 0).toList := ⟨_, rfl⟩
      rw [← hcs] at HB hrg hsz
      have HRG : Hid (wr.rangeAt (w.heap.size + 1) 36 cs) := hrg
      clear hcs hrg
      rcases hb : fitsL (formsL.getD 4 []) ((lsq s).drop at_) with _ | _
      · rw [hb] at HB
        have HNX : Hid (∀ g ∈ formsL.take (4 + 1), fitsL g ((lsq s).drop at_) = false) := none_step HNO.out 4 (by decide) hb
        clear hb HNO hce
        go_wp2_with (first
          | (refine wpList_load_mid rfl 103 _ rfl (w.heap.size + 1) 36 rfl cs _ HRG.out Tryd.underlying103 rfl hsz ?_)
          | (go_at_call 76; refine (HB.out _).mono ?_; rintro e w1 ⟨rfl, hb1⟩))
        go_roundw
        case rel => exact ⟨5, rfl, by omega, hbw.trans (hb1.mono hbs), HNX.out⟩
        case measure => simp [intOf]
      · rw [hb] at HB
        have HYES : Hid (runLen ((lsq s).drop at_) = 3) := runLen_at _ 4 _ _ rfl HNO.out hb
        clear hb HNO
        go_wp2_with (first
          | (refine wpList_load_mid rfl 103 _ rfl (w.heap.size + 1) 36 rfl cs _ HRG.out Tryd.underlying103 rfl hsz ?_)
          | (go_at_call 76; refine (HB.out _).mono ?_; rintro e w1 ⟨rfl, hb1⟩; have hce1 := hce w1 hb1))
        go_ret
        exact ⟨by rw [HYES.out]; rfl, hW0.trans ((hbw.trans (hb1.mono hbs)).mono hWs)⟩
    · have HB : Hid (∀ w, Calls Tryd.prog 76 #[.agg (formC 3 237 237 128 159 128 191 0 0).toList.toArray, .string s, .int .i64 at_] w fun e w' => e = .returned (.bool (fitsL (formsL.getD 5 []) ((lsq s).drop at_))) ∧ Below w.heap.size w w') := fun w => fits_c 3 237 237 128 159 128 191 0 0 s at_ w (by decide) hm ha (by decide)
      have hrg : wr.rangeAt (w.heap.size + 1) 45 (formC 3 237 237 128 159 128 191 0 0).toList := World.rangeAt_of_block hFx 45 9
      have hsz : (Tryd.prog.info? 103).map (·.size) = some (formC 3 237 237 128 159 128 191 0 0).toList.length := by kernel_rfl
      have hce : ∀ w1 : World, Below wr.heap.size wr w1 → w1.cell? ⟨w.heap.size + 1, 45, none⟩ = some (.int .i64 3) := fun w1 hb => by
        rw [hb.cell (p := ⟨w.heap.size + 1, 45, none⟩) (by show w.heap.size + 1 < _; omega), Lib.cell_of_heap hFx]; rfl
      obtain ⟨cs, hcs⟩ : ∃ cs, cs = (formC 3 237 237 128 159 128 191 0 0).toList := ⟨_, rfl⟩
      rw [← hcs] at HB hrg hsz
      have HRG : Hid (wr.rangeAt (w.heap.size + 1) 45 cs) := hrg
      clear hcs hrg
      rcases hb : fitsL (formsL.getD 5 []) ((lsq s).drop at_) with _ | _
      · rw [hb] at HB
        have HNX : Hid (∀ g ∈ formsL.take (5 + 1), fitsL g ((lsq s).drop at_) = false) := none_step HNO.out 5 (by decide) hb
        clear hb HNO hce
        go_wp2_with (first
          | (refine wpList_load_mid rfl 103 _ rfl (w.heap.size + 1) 45 rfl cs _ HRG.out Tryd.underlying103 rfl hsz ?_)
          | (go_at_call 76; refine (HB.out _).mono ?_; rintro e w1 ⟨rfl, hb1⟩))
        go_roundw
        case rel => exact ⟨6, rfl, by omega, hbw.trans (hb1.mono hbs), HNX.out⟩
        case measure => simp [intOf]
      · rw [hb] at HB
        have HYES : Hid (runLen ((lsq s).drop at_) = 3) := runLen_at _ 5 _ _ rfl HNO.out hb
        clear hb HNO
        go_wp2_with (first
          | (refine wpList_load_mid rfl 103 _ rfl (w.heap.size + 1) 45 rfl cs _ HRG.out Tryd.underlying103 rfl hsz ?_)
          | (go_at_call 76; refine (HB.out _).mono ?_; rintro e w1 ⟨rfl, hb1⟩; have hce1 := hce w1 hb1))
        go_ret
        exact ⟨by rw [HYES.out]; rfl, hW0.trans ((hbw.trans (hb1.mono hbs)).mono hWs)⟩
    · have HB : Hid (∀ w, Calls Tryd.prog 76 #[.agg (formC 4 240 240 144 191 128 191 128 191).toList.toArray, .string s, .int .i64 at_] w fun e w' => e = .returned (.bool (fitsL (formsL.getD 6 []) ((lsq s).drop at_))) ∧ Below w.heap.size w w') := fun w => fits_c 4 240 240 144 191 128 191 128 191 s at_ w (by decide) hm ha (by decide)
      have hrg : wr.rangeAt (w.heap.size + 1) 54 (formC 4 240 240 144 191 128 191 128 191).toList := World.rangeAt_of_block hFx 54 9
      have hsz : (Tryd.prog.info? 103).map (·.size) = some (formC 4 240 240 144 191 128 191 128 191).toList.length := by kernel_rfl
      have hce : ∀ w1 : World, Below wr.heap.size wr w1 → w1.cell? ⟨w.heap.size + 1, 54, none⟩ = some (.int .i64 4) := fun w1 hb => by
        rw [hb.cell (p := ⟨w.heap.size + 1, 54, none⟩) (by show w.heap.size + 1 < _; omega), Lib.cell_of_heap hFx]; rfl
      obtain ⟨cs, hcs⟩ : ∃ cs, cs = (formC 4 240 240 144 191 128 191 128 191).toList := ⟨_, rfl⟩
      rw [← hcs] at HB hrg hsz
      have HRG : Hid (wr.rangeAt (w.heap.size + 1) 54 cs) := hrg
      clear hcs hrg
      rcases hb : fitsL (formsL.getD 6 []) ((lsq s).drop at_) with _ | _
      · rw [hb] at HB
        have HNX : Hid (∀ g ∈ formsL.take (6 + 1), fitsL g ((lsq s).drop at_) = false) := none_step HNO.out 6 (by decide) hb
        clear hb HNO hce
        go_wp2_with (first
          | (refine wpList_load_mid rfl 103 _ rfl (w.heap.size + 1) 54 rfl cs _ HRG.out Tryd.underlying103 rfl hsz ?_)
          | (go_at_call 76; refine (HB.out _).mono ?_; rintro e w1 ⟨rfl, hb1⟩))
        go_roundw
        case rel => exact ⟨7, rfl, by omega, hbw.trans (hb1.mono hbs), HNX.out⟩
        case measure => simp [intOf]
      · rw [hb] at HB
        have HYES : Hid (runLen ((lsq s).drop at_) = 4) := runLen_at _ 6 _ _ rfl HNO.out hb
        clear hb HNO
        go_wp2_with (first
          | (refine wpList_load_mid rfl 103 _ rfl (w.heap.size + 1) 54 rfl cs _ HRG.out Tryd.underlying103 rfl hsz ?_)
          | (go_at_call 76; refine (HB.out _).mono ?_; rintro e w1 ⟨rfl, hb1⟩; have hce1 := hce w1 hb1))
        go_ret
        exact ⟨by rw [HYES.out]; rfl, hW0.trans ((hbw.trans (hb1.mono hbs)).mono hWs)⟩
    · have HB : Hid (∀ w, Calls Tryd.prog 76 #[.agg (formC 4 241 243 128 191 128 191 128 191).toList.toArray, .string s, .int .i64 at_] w fun e w' => e = .returned (.bool (fitsL (formsL.getD 7 []) ((lsq s).drop at_))) ∧ Below w.heap.size w w') := fun w => fits_c 4 241 243 128 191 128 191 128 191 s at_ w (by decide) hm ha (by decide)
      have hrg : wr.rangeAt (w.heap.size + 1) 63 (formC 4 241 243 128 191 128 191 128 191).toList := World.rangeAt_of_block hFx 63 9
      have hsz : (Tryd.prog.info? 103).map (·.size) = some (formC 4 241 243 128 191 128 191 128 191).toList.length := by kernel_rfl
      have hce : ∀ w1 : World, Below wr.heap.size wr w1 → w1.cell? ⟨w.heap.size + 1, 63, none⟩ = some (.int .i64 4) := fun w1 hb => by
        rw [hb.cell (p := ⟨w.heap.size + 1, 63, none⟩) (by show w.heap.size + 1 < _; omega), Lib.cell_of_heap hFx]; rfl
      obtain ⟨cs, hcs⟩ : ∃ cs, cs = (formC 4 241 243 128 191 128 191 128 191).toList := ⟨_, rfl⟩
      rw [← hcs] at HB hrg hsz
      have HRG : Hid (wr.rangeAt (w.heap.size + 1) 63 cs) := hrg
      clear hcs hrg
      rcases hb : fitsL (formsL.getD 7 []) ((lsq s).drop at_) with _ | _
      · rw [hb] at HB
        have HNX : Hid (∀ g ∈ formsL.take (7 + 1), fitsL g ((lsq s).drop at_) = false) := none_step HNO.out 7 (by decide) hb
        clear hb HNO hce
        go_wp2_with (first
          | (refine wpList_load_mid rfl 103 _ rfl (w.heap.size + 1) 63 rfl cs _ HRG.out Tryd.underlying103 rfl hsz ?_)
          | (go_at_call 76; refine (HB.out _).mono ?_; rintro e w1 ⟨rfl, hb1⟩))
        go_roundw
        case rel => exact ⟨8, rfl, by omega, hbw.trans (hb1.mono hbs), HNX.out⟩
        case measure => simp [intOf]
      · rw [hb] at HB
        have HYES : Hid (runLen ((lsq s).drop at_) = 4) := runLen_at _ 7 _ _ rfl HNO.out hb
        clear hb HNO
        go_wp2_with (first
          | (refine wpList_load_mid rfl 103 _ rfl (w.heap.size + 1) 63 rfl cs _ HRG.out Tryd.underlying103 rfl hsz ?_)
          | (go_at_call 76; refine (HB.out _).mono ?_; rintro e w1 ⟨rfl, hb1⟩; have hce1 := hce w1 hb1))
        go_ret
        exact ⟨by rw [HYES.out]; rfl, hW0.trans ((hbw.trans (hb1.mono hbs)).mono hWs)⟩
    · have HB : Hid (∀ w, Calls Tryd.prog 76 #[.agg (formC 4 244 244 128 143 128 191 128 191).toList.toArray, .string s, .int .i64 at_] w fun e w' => e = .returned (.bool (fitsL (formsL.getD 8 []) ((lsq s).drop at_))) ∧ Below w.heap.size w w') := fun w => fits_c 4 244 244 128 143 128 191 128 191 s at_ w (by decide) hm ha (by decide)
      have hrg : wr.rangeAt (w.heap.size + 1) 72 (formC 4 244 244 128 143 128 191 128 191).toList := World.rangeAt_of_block hFx 72 9
      have hsz : (Tryd.prog.info? 103).map (·.size) = some (formC 4 244 244 128 143 128 191 128 191).toList.length := by kernel_rfl
      have hce : ∀ w1 : World, Below wr.heap.size wr w1 → w1.cell? ⟨w.heap.size + 1, 72, none⟩ = some (.int .i64 4) := fun w1 hb => by
        rw [hb.cell (p := ⟨w.heap.size + 1, 72, none⟩) (by show w.heap.size + 1 < _; omega), Lib.cell_of_heap hFx]; rfl
      obtain ⟨cs, hcs⟩ : ∃ cs, cs = (formC 4 244 244 128 143 128 191 128 191).toList := ⟨_, rfl⟩
      rw [← hcs] at HB hrg hsz
      have HRG : Hid (wr.rangeAt (w.heap.size + 1) 72 cs) := hrg
      clear hcs hrg
      rcases hb : fitsL (formsL.getD 8 []) ((lsq s).drop at_) with _ | _
      · rw [hb] at HB
        have HNX : Hid (∀ g ∈ formsL.take (8 + 1), fitsL g ((lsq s).drop at_) = false) := none_step HNO.out 8 (by decide) hb
        clear hb HNO hce
        go_wp2_with (first
          | (refine wpList_load_mid rfl 103 _ rfl (w.heap.size + 1) 72 rfl cs _ HRG.out Tryd.underlying103 rfl hsz ?_)
          | (go_at_call 76; refine (HB.out _).mono ?_; rintro e w1 ⟨rfl, hb1⟩))
        go_roundw
        case rel => exact ⟨9, rfl, by omega, hbw.trans (hb1.mono hbs), HNX.out⟩
        case measure => simp [intOf]
      · rw [hb] at HB
        have HYES : Hid (runLen ((lsq s).drop at_) = 4) := runLen_at _ 8 _ _ rfl HNO.out hb
        clear hb HNO
        go_wp2_with (first
          | (refine wpList_load_mid rfl 103 _ rfl (w.heap.size + 1) 72 rfl cs _ HRG.out Tryd.underlying103 rfl hsz ?_)
          | (go_at_call 76; refine (HB.out _).mono ?_; rintro e w1 ⟨rfl, hb1⟩; have hce1 := hce w1 hb1))
        go_ret
        exact ⟨by rw [HYES.out]; rfl, hW0.trans ((hbw.trans (hb1.mono hbs)).mono hWs)⟩
    · have HE : Hid (runLen ((lsq s).drop at_) = 0) := runLen_no _ HNO.out
      clear HNO hFx
      go_wp2
      go_ret
      exact ⟨by rw [HE.out]; rfl, hW0.trans (hbw.mono hWs)⟩
end Go.Proofs.YtjpoifoejbabiabDoor
