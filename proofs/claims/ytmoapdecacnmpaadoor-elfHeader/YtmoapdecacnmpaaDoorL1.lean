
-- Both Headers answer the same.
import Derived.Test.YtmoapdecacnmpaaDoorG2
import Derived.Test.YtmoapdecacnmpaaDoorH1
import Derived.Test.YtmoapdecacnmpaaDoorH32
import Derived.Test.YtmoapdecacnmpaaDoorH64
import Derived.Test.YtmoapdecacnmpaaDoorR3
import Derived.Test.YtmoapdecacnmpaaDoorQ2
namespace Go.Proofs.YtmoapdecacnmpaaDoor
open Go.ChangeShapes Go.WideShapes Go.ChangeAt Go.RowKit
set_option linter.unusedVariables false
theorem rIdent_is (b : ByteArray) (hE : identE b = 0) (w : World) : Calls Tryd.prog 7 #[.string b] w fun r w' => r = .returned (.tuple #[.int .i64 (cls b), .int .i64 (ord b), .int .i64 0]) ∧ w' = w :=
  (rIdent_c b w).mono fun r w' ⟨h1, h2⟩ => ⟨by rw [h1]; exact tup3 (by unfold idC; rw [if_pos hE]) (by unfold idO; rw [if_pos hE]) hE, h2⟩
theorem header_both (b : ByteArray) (hm : b.size ≤ maxLen) : ∃ x0 x1 x2 x3 x4 x5 x6 x7 e : Int,
    (∀ w, Magic w → Calls Tryd.prog 9 #[.string b] w fun r w' => r = .returned (.tuple #[.agg #[.int .i64 x0, .int .i64 x1, .int .i64 x2, .int .i64 x3, .int .u64 x4, .int .i64 x5, .int .i64 x6, .int .i64 x7], .int .i64 e]) ∧ Below w.heap.size w w') ∧
    (∀ w, Calls Tryd.prog 10 #[.string b] w fun r w' => r = .returned (.tuple #[.agg #[.int .i64 x0, .int .i64 x1, .int .i64 x2, .int .i64 x3, .int .u64 x4, .int .i64 x5, .int .i64 x6, .int .i64 x7], .int .i64 e]) ∧ Below w.heap.size w w') := by
  by_cases hE : identE b = 0
  · have ho := ord_ok b hE
    rcases cls_ok b hE with hc | hc
    · have hI : ∀ w, Calls Tryd.prog 7 #[.string b] w fun r w' => r = .returned (.tuple #[.int .i64 32, .int .i64 (ord b), .int .i64 0]) ∧ w' = w := fun w => by have h := rIdent_is b hE w; rw [hc] at h; exact h
      by_cases hs : 52 ≤ b.size
      · refine ⟨_, _, _, _, _, _, _, _, _, fun w hM => Header_ok b w hM hm hE _ rfl (by kernel_rfl) (fun w k hF => ?_), fun w => rHeader_32 b (ord b) w hI hs hm ho⟩
        unfold FileAt at hF
        rw [hc] at hF
        exact header_32 b k (ord b) w hF hs hm ho
      · refine ⟨_, _, _, _, _, _, _, _, _, fun w hM => Header_cut b w hM hm hE (fun w k hF => ?_), fun w => rHeader_cut b 32 (ord b) 52 w hI (fun w => pick_32 _ _ w) (by omega)⟩
        unfold FileAt at hF
        rw [hc] at hF
        exact header_cut b k 52 _ w hF rfl rfl (by omega) (by omega) hm
    · have hI : ∀ w, Calls Tryd.prog 7 #[.string b] w fun r w' => r = .returned (.tuple #[.int .i64 64, .int .i64 (ord b), .int .i64 0]) ∧ w' = w := fun w => by have h := rIdent_is b hE w; rw [hc] at h; exact h
      by_cases hs : 64 ≤ b.size
      · refine ⟨_, _, _, _, _, _, _, _, _, fun w hM => Header_ok b w hM hm hE _ rfl (by kernel_rfl) (fun w k hF => ?_), fun w => rHeader_64 b (ord b) w hI hs hm ho⟩
        unfold FileAt at hF
        rw [hc] at hF
        exact header_64 b k (ord b) w hF hs hm ho
      · refine ⟨_, _, _, _, _, _, _, _, _, fun w hM => Header_cut b w hM hm hE (fun w k hF => ?_), fun w => rHeader_cut b 64 (ord b) 64 w hI (fun w => pick_64 _ _ w) (by omega)⟩
        unfold FileAt at hF
        rw [hc] at hF
        exact header_cut b k 64 _ w hF rfl rfl (by omega) (by omega) hm
  · exact ⟨_, _, _, _, _, _, _, _, _, fun w hM => Header_no b w hM hm hE, fun w => rHeader_no b (idC b) (idO b) (identE b) w (fun w => rIdent_c b w) (bne_iff_ne.2 hE)⟩
end Go.Proofs.YtmoapdecacnmpaaDoor
