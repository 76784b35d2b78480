
-- numberOf: which verb a word spells (2).
import Derived.Test.YtdamhdceajmdfaaDoorV2
import Derived.Deep.MidRow
namespace Go.Proofs.YtdamhdceajmdfaaDoor
open Go.ChangeShapes Go.WideShapes Go.ChangeAt Go.RowKit Go.MapKept
set_option linter.unusedVariables false
set_option maxRecDepth 100000
set_option linter.unusedSimpArgs false
theorem verbN_at {t : ByteArray} {k : Nat} (hk : k < 14) (h : wordL.getD k [] = (byL t).map capB) (hno : ∀ j, j < k → ¬ wordL.getD j [] = (byL t).map capB) : verbN t = k := by
  unfold verbN
  rw [List.find?_range_eq_some.2 ⟨by simpa using h, by simpa using hk, fun j hj => by simpa using hno j hj⟩]
  rfl
theorem verbN_no {t : ByteArray} (hno : ∀ j, j < 14 → ¬ wordL.getD j [] = (byL t).map capB) : verbN t = 0 := by
  unfold verbN
  rw [List.find?_range_eq_none.2 (fun j hj => by simpa using hno j hj)]
  rfl
theorem verbN_lt (t : ByteArray) : verbN t < 14 := by
  unfold verbN
  cases h : (List.range 14).find? fun v => wordL.getD v [] == (byL t).map capB with
  | none => decide
  | some k => have := List.mem_of_find?_eq_some h; simpa using this
theorem wordB_lo (k : Nat) : ∀ b ∈ byL (wordB k), b.toNat < 128 := by
  unfold wordB
  rw [byL_byB]
  by_cases h : k < 14
  · have : ∀ j : Fin 14, ∀ b ∈ wordL.getD j.val [], b.toNat < 128 := by decide
    exact this ⟨k, h⟩
  · rw [List.getD, List.getElem?_eq_none (by show 14 ≤ k; omega)]; simp
theorem vrow (k : Nat) (hk : k < 14) : ∀ w, (Instr.index 71 (.agg cellsV) (.int .i64 (k : Int))).run Tryd.prog w = .ok (.agg #[.string (wordB k), .bool (namedV k), .int .i64 (kindV k : Nat)]) w := by
  match k, hk with
  | 0, _ => intro w; kernel_rfl
  | 1, _ => intro w; kernel_rfl
  | 2, _ => intro w; kernel_rfl
  | 3, _ => intro w; kernel_rfl
  | 4, _ => intro w; kernel_rfl
  | 5, _ => intro w; kernel_rfl
  | 6, _ => intro w; kernel_rfl
  | 7, _ => intro w; kernel_rfl
  | 8, _ => intro w; kernel_rfl
  | 9, _ => intro w; kernel_rfl
  | 10, _ => intro w; kernel_rfl
  | 11, _ => intro w; kernel_rfl
  | 12, _ => intro w; kernel_rfl
  | 13, _ => intro w; kernel_rfl
  | n + 14, h => omega
theorem VT.range {w : World} (h : VT w) : w.rangeAt 2 0 cellsV.toList := by
  obtain ⟨t, fr, h⟩ := h
  intro j v hj
  rw [Nat.zero_add]
  simp only [World.cell?, h]
  simpa using hj
set_option maxHeartbeats 4000000 in
theorem numberOf_c (t : ByteArray) (w : World) (hT : VT w) (hs : t.size ≤ 33554432) : Calls Tryd.prog 40 #[.string t] w fun e w' => e = .returned (.int .i64 (verbN t : Nat)) ∧ Below w.heap.size w w' := by
  have HS : Hid (∀ (k : Nat) (wx : World), Calls Tryd.prog 53 #[.string t, .string (wordB k)] wx fun e w' => e = .returned (.bool (decide (wordL.getD k [] = (byL t).map capB))) ∧ Below wx.heap.size wx w') := fun k wx => by
    have := spells_c t (wordB k) wx (wordB_lo k) hs (wordB_size k)
    rw [show byL (wordB k) = wordL.getD k [] from by unfold wordB; rw [byL_byB]] at this
    exact this
  have HR := hidK hT.range
  obtain ⟨cl, hcl⟩ : ∃ cl, cl = cellsV.toList := ⟨_, rfl⟩
  have hv : ∀ k : Nat, k < 14 → ∀ w, (Instr.index 71 (.agg cl.toArray) (.int .i64 (k : Int))).run Tryd.prog w = .ok (.agg #[.string (wordB k), .bool (namedV k), .int .i64 (kindV k : Nat)]) w := by rw [hcl, Array.toArray_toList]; exact vrow
  have HV := hidK hv
  have HL : Hid ((Tryd.prog.info? 71).map (·.size) = some cl.length) := by show _ = _; rw [hcl]; kernel_rfl
  rw [← hcl] at HR
  clear hcl hT hv
  go_enter Tryd.func40, Tryd.ntmps40
  go_wp2_with (refine wpList_load_mid rfl _ _ rfl 2 0 rfl cl _ HR.out Tryd.underlying71 rfl HL.out ?_)
  go_loopw [6] (fun i wx => ∃ k : Nat, i = .int .i64 k ∧ k ≤ 14 ∧ (∀ j, j < k → ¬ wordL.getD j [] = (byL t).map capB) ∧ Below w.heap.size w wx) (fun i _ => 14 - (intOf i).toNat)
  case atStart => exact ⟨0, rfl, Nat.zero_le _, fun j h => absurd h (Nat.not_lt_zero _), Below.refl _ _⟩
  case round =>
    obtain ⟨k, rfl, hk, hno, hB⟩ := hrel
    have HNO := hidK hno
    have HBl := hidK hB
    clear hno hB
    by_cases hlt : k < 14
    · have kI : (k : Int) < 14 := by omega
      have hix := HV.out k hlt
      obtain ⟨wb, hwb⟩ : ∃ wb, wb = wordB k := ⟨_, rfl⟩
      obtain ⟨nb, hnb⟩ : ∃ nb, nb = namedV k := ⟨_, rfl⟩
      obtain ⟨kb, hkb⟩ : ∃ kb : Nat, kb = kindV k := ⟨_, rfl⟩
      have HSk := hidK (HS.out k)
      rw [← hwb] at HSk
      rw [← hwb, ← hnb, ← hkb] at hix
      by_cases he : wordL.getD k [] = (byL t).map capB
      · have HE := hidK (verbN_at hlt he HNO.out)
        rw [show decide (wordL.getD k [] = (byL t).map capB) = true from decide_eq_true he] at HSk
        clear he hwb hnb hkb
        go_wp2_with (go_at_call 53; refine (HSk.out _).mono ?_; rintro e w5 ⟨rfl, h5⟩)
        go_ret
        exact ⟨by rw [HE.out]; rfl, bel3K (bupK HBl.out _) h5⟩
      · have HE := hidK he
        rw [show decide (wordL.getD k [] = (byL t).map capB) = false from decide_eq_false he] at HSk
        clear he hwb hnb hkb
        go_wp2_with (go_at_call 53; refine (HSk.out _).mono ?_; rintro e w5 ⟨rfl, h5⟩)
        go_roundw
        case rel =>
          refine ⟨k + 1, by go_num, by omega, fun j hj => ?_, bel3K (bupK HBl.out _) h5⟩
          by_cases e : j = k
          · subst e; exact HE.out
          · exact HNO.out j (by omega)
        case measure => simp [intOf]; omega
    · obtain rfl : k = 14 := by omega
      have HE := hidK (verbN_no HNO.out)
      go_wp2
      go_ret
      exact ⟨by rw [HE.out]; rfl, HBl.out⟩
end Go.Proofs.YtdamhdceajmdfaaDoor
