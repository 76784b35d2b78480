
-- What Encode writes of a name, sound and read back.
import Derived.Test.YtmppfpkcnhcfbabDoorN2
namespace Go.Proofs.YtmppfpkcnhcfbabDoor
open Go.ChangeShapes Go.WideShapes Go.ChangeAt Go.RowKit
set_option linter.unusedVariables false
set_option maxRecDepth 100000

theorem back_c (k : Int) (hk : k = 0 ∨ k = 1 ∨ k = 2) (L : List (List UInt8)) (j : Nat) (x : List UInt8) (hj : L[j]? = some x) (hv : validL x = true) (hx : x.length ≤ 1100000) (ht : (tabL k (L.take j)).length ≤ 4000000) (htt : (tabL k L).length ≤ 4000000) (data : ByteArray) (hd : data.size ≤ 1100000) (w : World) (hm : MaxLenAt w) :
    (Calls Tryd.prog 23 #[.int .i64 k, .string (strL (fAt k L j))] w fun e w' => e = .returned (.bool true) ∧ Below w.heap.size w w') ∧
    (Calls Tryd.prog 24 #[.string (strL (fAt k L j)), .string (strL (iAt k L j)), .string data, .string (strL (tabL k L))] w fun e w' => e = .returned (.tuple #[.string (strL x), .string data, .bool true]) ∧ Below w.heap.size w w') := by
  have hg : L.getD j [] = x := by rw [List.getD, hj]; rfl
  have hT : (strL (tabL k L)).size < 4294967281 := by rw [strL_size]; omega
  unfold fAt iAt
  rw [hg]
  unfold fieldOf inlOf
  by_cases h2 : k = 2
  · subst h2
    rw [if_pos rfl]
    cases ho : ownB x
    · rw [if_neg (by decide), if_pos ⟨rfl, rfl⟩]
      have hF := fine_long x.length (by omega)
      have hin := inline_back x data.data.toList hv
      rw [strL_of] at hin
      have e : (strL x ++ data).data.toList = x ++ data.data.toList := by simp [strL]
      exact ⟨sound_c 2 _ 7 _ _ w hF (.inl ⟨rfl, rfl⟩), read_long7 _ (strL x) data _ (strL x) _ w hF (by rw [strL_size]; omega) (by rw [e]; exact hin)⟩
    · rw [if_pos rfl, if_neg (fun h => absurd h.2 (by decide))]
      have hF := fine_plain x hv ho
      exact ⟨sound_c 2 _ 6 _ _ w hF (.inl ⟨rfl, rfl⟩), read_name _ data _ (strL x) 6 w hF (.inr rfl)⟩
  · have hni : ¬ (k = 2 ∧ ownB x = false) := fun h => h2 h.1
    rw [if_neg h2, if_neg hni]
    by_cases h0 : k = 0 ∧ x.length ≤ 15
    · rw [if_pos h0]
      have hF := fine_short x hv h0.2
      exact ⟨sound_c k _ 4 _ _ w hF (.inr (.inl ⟨h0.1, rfl⟩)), read_name _ data _ (strL x) 4 w hF (.inl rfl)⟩
    · rw [if_neg h0]
      have hF := fine_ref (tabL k (L.take j)).length (by omega)
      have htb : tabOf k x = x ++ [47, 10] := by unfold tabOf; rw [if_pos ⟨h2, h0⟩]
      have hlk := look_back k L j x hj hv _ rfl htb
      refine ⟨sound_c k _ 5 _ _ w hF ?_, read_ref _ data _ (strL x) _ w hF hm hT (by rw [strL_data]; exact hlk)⟩
      rcases hk with rfl | rfl | rfl
      · exact .inr (.inl ⟨rfl, rfl⟩)
      · exact .inr (.inr ⟨rfl, rfl⟩)
      · exact absurd rfl h2
end Go.Proofs.YtmppfpkcnhcfbabDoor
