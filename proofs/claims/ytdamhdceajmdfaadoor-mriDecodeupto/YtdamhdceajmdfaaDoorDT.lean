
-- The document's Decode (2): tokens, verbs, words.
import Derived.Test.YtdamhdceajmdfaaDoorDR
import Derived.Test.YtdamhdceajmdfaaDoorV1
import Derived.Test.YtdamhdceajmdfaaDoorV3
namespace Go.Proofs.YtdamhdceajmdfaaDoor
open Go.ChangeShapes Go.WideShapes Go.ChangeAt Go.RowKit Go.MapKept
set_option linter.unusedVariables false
set_option maxRecDepth 100000
set_option linter.unusedSimpArgs false
def RtRel (w : World) (S : ByteArray) (o wd i : Value) (wx : World) : Prop := ∃ (k : Nat) (P : List ByteArray) (W : ByteArray), i = .int .i64 k ∧ wd = .string W ∧ k ≤ S.size ∧ W.size ≤ k ∧ OwnF (fun b => w.heap.size ≤ b) txL 1 9 wx o P ∧ P.length ≤ 2 * k ∧ tokL (byL S) = P ++ tokG (byL W) ((byL S).drop k) ∧ Below w.heap.size w wx
def RtSays (s : ByteArray) (w : World) (e : Ending) (w' : World) : Prop := ∃ v, e = .returned v ∧ OwnT w.heap.size w' v (tokL (byL s)) ∧ Below w.heap.size w w'
theorem parB_nat (b : UInt8) : parB b = decide (b.toNat = 40 ∨ b.toNat = 41) := by
  have : ∀ x : Fin 256, parB (UInt8.ofNat x.val) = decide (x.val = 40 ∨ x.val = 41) := by decide
  have := this ⟨b.toNat, b.toNat_lt⟩
  simpa using this
theorem flush_ne {W : ByteArray} (h : byL W ≠ []) : flushW (byL W) = [W] := by unfold flushW; rw [if_neg h, byB_byL]
set_option maxHeartbeats 16000000 in
theorem rtokens_c (s : ByteArray) (w : World) (hs : s.size ≤ 16777216) :
    Calls Tryd.prog 28 #[.string s] w fun e w' => RtSays s w e w' := by
  have HRM : Hid (∀ wx, Calls Tryd.prog 43 #[.string s] wx fun e w' => (∃ k : Nat, e = .returned (.int .i64 k) ∧ k ≤ s.size ∧ noRem ((byL s).take k) ∧ (k = s.size ∨ ∃ b, (byL s)[k]? = some b ∧ remB b = true)) ∧ w' = wx) := fun wx => remark_c s wx (by omega)
  have HPT : Hid (∀ b wx, Calls Tryd.prog 44 #[.int .u8 (UInt8.toNat b : Int)] wx fun e w' => e = .returned (.bool (sepB b)) ∧ w' = wx) := fun b wx => parts_c b wx
  have hsl0 : ∀ k : Nat, k ≤ s.size → ∀ W, (Instr.slice 9 (.string s) none (some (.int .i64 (k : Int))) none).run Tryd.prog W = .ok (.string (byB ((byL s).take k))) W := fun k hk => sliceBeg s k hk
  have HSL := hidK hsl0
  clear hsl0
  go_enter Tryd.func28, Tryd.ntmps28
  go_upto_region 2 with (go_at_call 43; refine (HRM.out _).mono ?_; rintro e w1 ⟨⟨r, rfl, hr, hno, hend⟩, h1⟩; rw [h1]; clear h1; have HNO := hidK hno; have HEND := hidK hend; have hsl := HSL.out r hr; clear hno hend)
  obtain ⟨S, hS⟩ : ∃ S, S = byB ((byL s).take r) := ⟨_, rfl⟩
  have hSl : byL S = (byL s).take r := by rw [hS, byL_byB]
  have hSs : S.size ≤ 16777216 := by rw [← byL_size, hSl, List.length_take, byL_size]; omega
  have HTOK : Hid (tokL (byL s) = tokL (byL S)) := by
    show _ = _
    rw [hSl]
    rcases HEND.out with q | ⟨b, hb, hrb⟩
    · rw [List.take_of_length_le (by rw [byL_size]; omega)]
    · exact tok_cut hb hrb HNO.out
  have HNR : Hid (noRem (byL S)) := by show noRem _; rw [hSl]; exact HNO.out
  rw [← hS]
  have HSS := hidK hS
  clear hS hSl hsl HSL HRM
  go_wp2
  go_loopw [4, 5, 6] (fun o wd i wx => RtRel w S o wd i wx) (fun _ _ i _ => S.size - (intOf i).toNat)
  case atStart => exact ⟨0, [], ⟨#[]⟩, rfl, rfl, Nat.zero_le _, Nat.le_refl _, OwnF.nil, Nat.le_refl _, rfl, Below.refl _ _⟩
  case round =>
    obtain ⟨k, P, W, rfl, rfl, hks, hWk, hO, hPk, hL, hB⟩ := hrel
    have hBs := hB.size
    have HB := hidK hB
    have HO := hidK hO
    have HLL := hidK hL
    obtain ⟨so, sc, hs3, hsl⟩ := hO.form
    obtain ⟨pl, hpl⟩ : ∃ m, m = P.length := ⟨_, rfl⟩
    have HPL := hidK hpl
    rw [← hpl] at hs3 hPk
    subst hs3
    have tlW : W.toList = byL W := by rw [ByteArray.toList_eq]; rfl
    clear hO hL hB hpl hsl
    by_cases hk : k < S.size
    · have hidx := idx32 S k hk
      have hat := at32 S k hk
      have hs1 := sliceMid S k (k + 1) (by omega) (by omega)
      have hs1' : ∀ W, (Instr.slice 9 (.string S) (some (.int .i64 (k : Int))) (some (.int .i64 ((k : Int) + 1))) none).run Tryd.prog W = .ok (.string (byB (((byL S).take (k + 1)).drop k))) W := hs1
      obtain ⟨bb, hbb⟩ : ∃ b, b = S[k] := ⟨_, rfl⟩
      rw [← hbb] at hidx hat
      have hone : ((byL S).take (k + 1)).drop k = [bb] := by
        rw [takeSucc hat, List.drop_append_of_le_length (by rw [List.length_take, byL_size]; omega), List.drop_eq_nil_of_le (by rw [List.length_take]; omega)]; rfl
      rw [hone] at hs1'
      have HAT := hidK hat
      have HDS := hidK (dropS hat)
      have HRB : Hid (remB bb = false) := HNR.out bb (List.mem_of_getElem? hat)
      have HPB := hidK (parB_nat bb)
      have HPC : Hid (∀ wx, Calls Tryd.prog 44 #[.int .u8 (bb.toNat : Int)] wx fun e w' => e = .returned (.bool (sepB bb)) ∧ w' = wx) := HPT.out bb
      obtain ⟨B, hBn⟩ : ∃ B : Nat, B = bb.toNat := ⟨_, rfl⟩
      rw [← hBn] at hidx HPC HPB
      have k1 : (k : Int) + 1 ≤ (S.size : Int) := by omega
      have hnx : ¬ 9223372036854775807 < W.size + 1 := by omega
      clear hat hbb hBn hs1 hone HPT
      by_cases hpar : B = 40 ∨ B = 41
      · have HP : Hid (parB bb = true) := by show _ = _; rw [HPB.out]; exact decide_eq_true hpar
        have HSP : Hid (sepB bb = false) := by
          have := HP.out
          show _ = _
          unfold parB sepB at *
          simp only [Bool.or_eq_true, beq_iff_eq] at this
          rcases this with q | q <;> rw [q] <;> rfl
        have HTK : Hid (tokL (byL S) = (P ++ flushW (byL W) ++ [byB [bb]]) ++ tokG [] ((byL S).drop (k + 1))) := by
          show _ = _
          rw [HLL.out, HDS.out, tokG_par _ _ _ HRB.out HSP.out HP.out]; simp
        obtain ⟨X, hX⟩ : ∃ X, X = byB [bb] := ⟨_, rfl⟩
        rw [← hX] at hs1' HTK
        have HX := hidK hX
        clear HPB HPC hX
        by_cases h0 : byL W = []
        · have HW0 : Hid (flushW (byL W) = []) := by show _ = _; rw [h0]; rfl
          obtain rfl : W = ⟨#[]⟩ := byL_inj (by rw [h0]; rfl)
          clear h0 tlW
          rcases hpar with rfl | rfl
          all_goals
            go_wp2_with (at_builtin; refine wpG_one (F := fun b => w.heap.size ≤ b) elT rfl (.tmp 51) (.tmp 57) rfl (.slice so pl sc) P X #[.string X] rfl rfl rfl HO.out (txL_one _) (by have := HPL.out; omega) (fun b hb => Nat.le_trans hBs hb) ?_; intro v8 w8 o8 k8 n8)
            go_roundw
            case rel =>
              refine ⟨k + 1, P ++ [X], ⟨#[]⟩, by go_num, rfl, by omega, Nat.zero_le _, o8, by rw [List.length_append, ← HPL.out]; simp only [List.length_cons, List.length_nil]; omega, ?_, HB.out.trans (k8.below (fun g hg => HO.out.2 g hg) hBs)⟩
              rw [HTK.out, HW0.out, List.append_nil]; rfl
            case measure => simp [intOf]; omega
        · have HW0 : Hid (flushW (byL W) = [W]) := flush_ne h0
          have hb3 : W.toList.isEmpty = false := by rw [tlW]; cases q : byL W with | nil => exact absurd q h0 | cons a l => rfl
          have hb2 : ¬ W.toList = [] := by rw [tlW]; exact h0
          clear h0 tlW
          rcases hpar with rfl | rfl
          all_goals
            go_upto_region 12 with (at_builtin; refine wpG_one (F := fun b => w.heap.size ≤ b) elT rfl (.tmp 46) (.tmp 48) rfl (.slice so pl sc) P W #[.string W] rfl rfl rfl HO.out (txL_one _) (by have := HPL.out; omega) (fun b hb => Nat.le_trans hBs hb) ?_; intro v8 w8 o8 k8 n8; obtain ⟨so8, sc8, hs8, _⟩ := o8.form; obtain ⟨pl8, hpl8⟩ : ∃ m, m = (P ++ [W]).length := ⟨_, rfl⟩; rw [← hpl8] at hs8; subst hs8; have HPL8 := hidK hpl8; have HO8 := hidK o8; have HB8 := hidK (HB.out.trans (k8.below (fun g hg => HO.out.2 g hg) hBs)); clear hpl8 o8 k8 n8)
            have hBs8 := HB8.out.size
            go_wp2_with (at_builtin; refine wpG_one (F := fun b => w.heap.size ≤ b) elT rfl (.tmp 51) (.tmp 57) rfl (.slice so8 pl8 sc8) (P ++ [W]) X #[.string X] rfl rfl rfl HO8.out (txL_one _) (by rw [List.length_append, ← HPL.out]; simp only [List.length_cons, List.length_nil]; omega) (fun b hb => Nat.le_trans hBs8 hb) ?_; intro v9 w9 o9 k9 n9)
            go_roundw
            case rel =>
              refine ⟨k + 1, P ++ [W] ++ [X], ⟨#[]⟩, by go_num, rfl, by omega, Nat.zero_le _, o9, by rw [List.length_append, List.length_append, ← HPL.out]; simp only [List.length_cons, List.length_nil]; omega, ?_, HB8.out.trans (k9.below (fun g hg => HO8.out.2 g hg) hBs8)⟩
              rw [HTK.out, HW0.out]; rfl
            case measure => simp [intOf]; omega
      · have HP : Hid (parB bb = false) := by show _ = _; rw [HPB.out]; exact decide_eq_false hpar
        have c1 : ((B : Int) == 40) = false := by simp; omega
        have c2 : ((B : Int) == 41) = false := by simp; omega
        clear HPB hpar
        cases hsp : sepB bb
        · rw [hsp] at HPC
          have HTK : Hid (tokL (byL S) = P ++ tokG (byL (W ++ byB [bb])) ((byL S).drop (k + 1))) := by
            show _ = _
            rw [HLL.out, HDS.out, tokG_one _ _ _ (by unfold plainB; rw [hsp, HP.out, HRB.out]; rfl), byL_app, byL_byB]
          have hz : (byB [bb]).size = 1 := byB_size _
          clear hsp tlW
          go_wp2_with (go_at_call 44; refine (HPC.out _).mono ?_; rintro e w2 ⟨rfl, h2⟩; rw [h2]; clear h2)
          go_roundw
          case rel => exact ⟨k + 1, P, W ++ byB [bb], by go_num, rfl, by omega, by rw [ByteArray.size_append, byB_size]; simp only [List.length_cons, List.length_nil]; omega, HO.out, by rw [← HPL.out]; omega, HTK.out, HB.out⟩
          case measure => simp [intOf]; omega
        · rw [hsp] at HPC
          have HTK : Hid (tokL (byL S) = (P ++ flushW (byL W)) ++ tokG [] ((byL S).drop (k + 1))) := by
            show _ = _
            rw [HLL.out, HDS.out, tokG_sep _ _ _ HRB.out hsp]; simp
          clear hsp
          by_cases h0 : byL W = []
          · have HW0 : Hid (flushW (byL W) = []) := by show _ = _; rw [h0]; rfl
            obtain rfl : W = ⟨#[]⟩ := byL_inj (by rw [h0]; rfl)
            clear h0 tlW
            go_wp2_with (go_at_call 44; refine (HPC.out _).mono ?_; rintro e w2 ⟨rfl, h2⟩; rw [h2]; clear h2)
            go_roundw
            case rel => exact ⟨k + 1, P, ⟨#[]⟩, by go_num, rfl, by omega, Nat.zero_le _, HO.out, by rw [← HPL.out]; omega, by rw [HTK.out, HW0.out, List.append_nil]; rfl, HB.out⟩
            case measure => simp [intOf]; omega
          · have HW0 : Hid (flushW (byL W) = [W]) := flush_ne h0
            have hb3 : W.toList.isEmpty = false := by rw [tlW]; cases q : byL W with | nil => exact absurd q h0 | cons a l => rfl
            have hb2 : ¬ W.toList = [] := by rw [tlW]; exact h0
            clear h0 tlW
            go_wp2_with (first
              | (go_at_call 44; refine (HPC.out _).mono ?_; rintro e w2 ⟨rfl, h2⟩; rw [h2]; clear h2)
              | (at_builtin; refine wpG_one (F := fun b => w.heap.size ≤ b) elT rfl (.tmp 46) (.tmp 48) rfl (.slice so pl sc) P W #[.string W] rfl rfl rfl HO.out (txL_one _) (by have := HPL.out; omega) (fun b hb => Nat.le_trans hBs hb) ?_; intro v8 w8 o8 k8 n8))
            go_roundw
            case rel => exact ⟨k + 1, P ++ [W], ⟨#[]⟩, by go_num, rfl, by omega, Nat.zero_le _, o8, by rw [List.length_append, ← HPL.out]; simp only [List.length_cons, List.length_nil]; omega, by rw [HTK.out, HW0.out]; rfl, HB.out.trans (k8.below (fun g hg => HO.out.2 g hg) hBs)⟩
            case measure => simp [intOf]; omega
    · obtain rfl : k = S.size := by omega
      have HE : Hid (tokL (byL s) = P ++ flushW (byL W)) := by
        show _ = _
        have e2 : (byL S).drop S.size = [] := List.drop_of_length_le (by rw [byL_size]; exact Nat.le_refl _)
        rw [HTOK.out, HLL.out, e2, tokG]
      by_cases h0 : byL W = []
      · have HW0 : Hid (flushW (byL W) = []) := by show _ = _; rw [h0]; rfl
        have HF : Hid (tokL (byL s) = P) := by show _ = _; rw [HE.out, HW0.out, List.append_nil]
        obtain rfl : W = ⟨#[]⟩ := byL_inj (by rw [h0]; rfl)
        clear h0 tlW
        go_wp2
        go_ret
        exact ⟨_, rfl, by rw [HF.out]; exact HO.out.t, HB.out⟩
      · have HW0 : Hid (flushW (byL W) = [W]) := flush_ne h0
        have HF : Hid (tokL (byL s) = P ++ [W]) := by show _ = _; rw [HE.out, HW0.out]
        have hb3 : W.toList.isEmpty = false := by rw [tlW]; cases q : byL W with | nil => exact absurd q h0 | cons a l => rfl
        have hb2 : ¬ W.toList = [] := by rw [tlW]; exact h0
        clear h0 tlW
        go_wp2_with (at_builtin; refine wpG_one (F := fun b => w.heap.size ≤ b) elT rfl (.tmp 61) (.tmp 63) rfl (.slice so pl sc) P W #[.string W] rfl rfl rfl HO.out (txL_one _) (by have := HPL.out; omega) (fun b hb => Nat.le_trans hBs hb) ?_; intro v8 w8 o8 k8 n8)
        go_ret
        exact ⟨_, rfl, by rw [HF.out]; exact o8.t, HB.out.trans (k8.below (fun g hg => HO.out.2 g hg) hBs)⟩
end Go.Proofs.YtdamhdceajmdfaaDoor
