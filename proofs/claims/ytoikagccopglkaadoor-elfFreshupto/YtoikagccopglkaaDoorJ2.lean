
-- Both Sections answer the same.
import Derived.Test.YtoikagccopglkaaDoorJ32
import Derived.Test.YtoikagccopglkaaDoorJ64
import Derived.Test.YtoikagccopglkaaDoorH32
import Derived.Test.YtoikagccopglkaaDoorH64
import Derived.Test.YtoikagccopglkaaDoorH1
import Derived.Test.YtoikagccopglkaaDoorR3
namespace Go.Proofs.YtoikagccopglkaaDoor
open Go.ChangeShapes Go.WideShapes Go.ChangeAt Go.RowKit
set_option linter.unusedVariables false
set_option maxRecDepth 100000
theorem rIdent_e0 (b : ByteArray) (hE : identE b = 0) (w : World) : Calls Tryd.prog 24 #[.string b] w fun r w' => r = .returned (.tuple #[.int .i64 (cls b), .int .i64 (ord b), .int .i64 0]) ∧ w' = w :=
  (rIdent_c b w).mono fun r w' ⟨h1, h2⟩ => ⟨by rw [h1]; exact tup3 (by unfold idC; rw [if_pos hE]) (by unfold idO; rw [if_pos hE]) hE, h2⟩
/-- both Sections, and the document's Header where they do not refuse -/
def SecsBoth (b : ByteArray) (n : Nat) (s : Nat → Sec) (e : Int) : Prop :=
  n ≤ 26214 ∧ SecB s ∧ (e ≠ 0 → n = 0) ∧ PSecs b n s e ∧ DSecs b n s e ∧ (e = 0 → identE b = 0 ∧ ∃ x2 x3 x4 x5 x6 x7 : Int, ∀ w : World, Calls Tryd.prog 14 #[.string b] w fun r w' => r = .returned (.tuple #[.agg #[.int .i64 (cls b), .int .i64 (ord b), .int .i64 x2, .int .i64 x3, .int .u64 x4, .int .i64 x5, .int .i64 x6, .int .i64 x7], .int .i64 0]) ∧ Below w.heap.size w w') ∧ (identE b ≠ 0 → e = identE b)
theorem secs_both (b : ByteArray) (hb : b.size ≤ 1048576) : ∃ n s e, SecsBoth b n s e := by
  have hm : b.size ≤ maxLen := by unfold maxLen; omega
  by_cases hE : identE b = 0
  case neg =>
    have hI : ∀ w : World, Magic w → Calls Tryd.prog 18 #[.string b] w fun r w' => r = .panicked (gives (identE b)) ∧ Below w.heap.size w w' := fun w hM => (identify_c b w hM hm).mono fun r w' ⟨h1, h2⟩ => by
      rcases h2 with ⟨h3, _⟩ | ⟨_, h3⟩
      · exact absurd h3 hE
      · exact ⟨h3, h1⟩
    exact ⟨0, fun _ => secOf b 32 0 0, identE b, by omega, fun _ => sec_b _ _ _ _, fun _ => rfl, psecs_no_32 b _ _ fun w hM => find_refused b _ w hM hI, dsecs_no_32 b _ _ fun w => rSecs_no b _ _ _ _ _ _ _ _ _ w (bne_iff_ne.2 hE) (fun w => rHeader_no b (idC b) (idO b) (identE b) w (fun w => rIdent_c b w) (bne_iff_ne.2 hE)), fun h => absurd h hE, fun _ => rfl⟩
  have ho := ord_ok b hE
  rcases cls_ok b hE with hc | hc
  · have hI : ∀ w, Calls Tryd.prog 24 #[.string b] w fun r w' => r = .returned (.tuple #[.int .i64 32, .int .i64 (ord b), .int .i64 0]) ∧ w' = w := fun w => by have h := rIdent_e0 b hE w; rw [hc] at h; exact h
    by_cases hs : 52 ≤ b.size
    · have hR := fun w => rHeader_32 b (ord b) w hI hs hm ho
      obtain ⟨n, s, e, h1, h0, h2, h3, h4⟩ := secs_32' b _ _ _ (num b 32 4 (ord b)) (num b 46 2 (ord b)) (num b 48 2 (ord b)) hb hE hc (Nat.lt_trans (num_lt4 b _ _) (by decide)) (num_lt2 b _ _) (num_lt2 b _ _) (fun w k hF => header_32 b k (ord b) w hF hs hm ho) hR
      have hR' : ∃ x2 x3 x4 x5 x6 x7 : Int, ∀ w : World, Calls Tryd.prog 14 #[.string b] w fun r w' => r = .returned (.tuple #[.agg #[.int .i64 (cls b), .int .i64 (ord b), .int .i64 x2, .int .i64 x3, .int .u64 x4, .int .i64 x5, .int .i64 x6, .int .i64 x7], .int .i64 0]) ∧ Below w.heap.size w w' := by
        rw [hc]
        exact ⟨_, _, _, _, _, _, hR⟩
      exact ⟨n, s, e, h1, h0, h2, h3, h4, fun _ => ⟨hE, hR'⟩, fun h => absurd hE h⟩
    · have hH : ∀ (w : World) (k : Nat), w.heap[k]? = some (.cells (fileCells 32 (ord b) b) 62 (0, 0)) → Calls Tryd.prog 19 #[.pointer (some ⟨k, 0, none⟩)] w fun r w' => r = .panicked (gives 54) ∧ Below w.heap.size w w' := fun w k hF => header_cut b k 52 _ w hF rfl rfl (by omega) (by omega) hm
      exact ⟨0, fun _ => secOf b 32 0 0, 54, by omega, fun _ => sec_b _ _ _ _, fun _ => rfl, psecs_no_32 b _ _ fun w hM => find_headless b 54 w hM _ (id_32 b hm hE hc) hH, dsecs_no_32 b _ _ fun w => rSecs_no b _ _ _ _ _ _ _ _ _ w (by decide) (fun w => rHeader_cut b 32 (ord b) 52 w hI (fun w => pick_32 _ _ w) (by omega)), fun h => absurd h (by decide), fun h => absurd hE h⟩
  · have hI : ∀ w, Calls Tryd.prog 24 #[.string b] w fun r w' => r = .returned (.tuple #[.int .i64 64, .int .i64 (ord b), .int .i64 0]) ∧ w' = w := fun w => by have h := rIdent_e0 b hE w; rw [hc] at h; exact h
    by_cases hs : 64 ≤ b.size
    · have hR := fun w => rHeader_64 b (ord b) w hI hs hm ho
      obtain ⟨n, s, e, h1, h0, h2, h3, h4⟩ := secs_64' b _ _ _ (num b 40 8 (ord b)) (num b 58 2 (ord b)) (num b 60 2 (ord b)) hb hE hc (num_lt8 b _ _) (num_lt2 b _ _) (num_lt2 b _ _) (fun w k hF => header_64 b k (ord b) w hF hs hm ho) hR
      have hR' : ∃ x2 x3 x4 x5 x6 x7 : Int, ∀ w : World, Calls Tryd.prog 14 #[.string b] w fun r w' => r = .returned (.tuple #[.agg #[.int .i64 (cls b), .int .i64 (ord b), .int .i64 x2, .int .i64 x3, .int .u64 x4, .int .i64 x5, .int .i64 x6, .int .i64 x7], .int .i64 0]) ∧ Below w.heap.size w w' := by
        rw [hc]
        exact ⟨_, _, _, _, _, _, hR⟩
      exact ⟨n, s, e, h1, h0, h2, h3, h4, fun _ => ⟨hE, hR'⟩, fun h => absurd hE h⟩
    · have hH : ∀ (w : World) (k : Nat), w.heap[k]? = some (.cells (fileCells 64 (ord b) b) 62 (0, 0)) → Calls Tryd.prog 19 #[.pointer (some ⟨k, 0, none⟩)] w fun r w' => r = .panicked (gives 54) ∧ Below w.heap.size w w' := fun w k hF => header_cut b k 64 _ w hF rfl rfl (by omega) (by omega) hm
      exact ⟨0, fun _ => secOf b 32 0 0, 54, by omega, fun _ => sec_b _ _ _ _, fun _ => rfl, psecs_no_32 b _ _ fun w hM => find_headless b 54 w hM _ (id_64 b hm hE hc) hH, dsecs_no_32 b _ _ fun w => rSecs_no b _ _ _ _ _ _ _ _ _ w (by decide) (fun w => rHeader_cut b 64 (ord b) 64 w hI (fun w => pick_64 _ _ w) (by omega)), fun h => absurd h (by decide), fun h => absurd hE h⟩
end Go.Proofs.YtoikagccopglkaaDoor
