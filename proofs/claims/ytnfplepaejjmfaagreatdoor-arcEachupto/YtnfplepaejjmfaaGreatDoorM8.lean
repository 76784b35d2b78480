import Derived.Test.YtnfplepaejjmfaaGreatDoorM1
import Derived.Test.YtnfplepaejjmfaaGreatDoorM7
import Derived.Laws.AppendOwn
import Derived.Test.YtnfplepaejjmfaaGreatDoorM4

-- arc: the document's step.
namespace Go.Proofs.YtnfplepaejjmfaaGreatDoor
open Go.ChangeShapes Go.WideShapes Go.ChangeAt Go.RowKit Go.Shelf
set_option linter.unusedVariables false
set_option maxRecDepth 100000
set_option maxHeartbeats 4000000 in
theorem step_4 (n₀ : Nat) (b : ByteArray) (kd fm sp pc pl ee : Int) (ix tb : ByteArray) (ib : Bool) (ao bo : Option Addr) (ln cp lb cb : Nat) (lm : List Value) (km : Nat) (la : List Value) (ka : Nat) (d u g m s so nu z en K : Int) (n fn da : ByteArray) (da2 : ByteArray) (z2 en2 : Int) (w : World) (hn : n₀ ≤ w.heap.size)
    (hM : w.ownsRow n₀ 54 7 (.slice ao ln cp) km lm) (hA : w.ownsRow n₀ 3 1 (.slice bo lb cb) ka la)
    (HN : Hid (∀ wx, Calls Tryz.prog 66 #[.string b, .agg #[.int .i64 kd, .int .i64 fm, .string ix, .int .i64 sp, .slice ao ln cp, .slice bo lb cb, .string tb, .int .i64 pc, .bool ib, .int .i64 pl, .int .i64 ee]] wx fun r w' => r = .returned (.tuple #[.agg #[.int .i64 d, .int .i64 u, .int .i64 g, .int .i64 m, .string n, .int .i64 s, .int .i64 so, .int .i64 nu, .string fn, .string da, .int .i64 z, .int .i64 0], .int .i64 K]) ∧ Below wx.heap.size wx w'))
    (HF : Hid (∀ wx, Calls Tryz.prog 67 #[.string b, .int .i64 pl, .int .i64 K, .agg #[.int .i64 d, .int .i64 u, .int .i64 g, .int .i64 m, .string n, .int .i64 s, .int .i64 so, .int .i64 nu, .string fn, .string da, .int .i64 z, .int .i64 0]] wx fun r w' => r = .returned (.agg #[.int .i64 d, .int .i64 u, .int .i64 g, .int .i64 m, .string n, .int .i64 s, .int .i64 so, .int .i64 nu, .string fn, .string da2, .int .i64 z2, .int .i64 0]) ∧ Below wx.heap.size wx w'))
    (HI : Hid (∀ wx, Calls Tryz.prog 68 #[.int .i64 so] wx fun r w' => r = .returned (.bool false) ∧ w' = wx)) (hp0 : 0 ≤ pc) (hp1 : pc < 4611686018427387904) (hs : so = 3) :
    Calls Tryz.prog 50 #[.string b, .agg #[.int .i64 kd, .int .i64 fm, .string ix, .int .i64 sp, .slice ao ln cp, .slice bo lb cb, .string tb, .int .i64 pc, .bool ib, .int .i64 pl, .int .i64 ee]] w fun r w' => r = .returned (.agg #[.int .i64 K, .int .i64 fm, .string ix, .int .i64 sp, .slice ao ln cp, .slice bo lb cb, .string da2, .int .i64 (pc + 1), .bool false, .int .i64 z2, .int .i64 ee]) ∧ FrS n₀ w w' ∧ w'.ownsRow n₀ 54 7 (.slice ao ln cp) km lm ∧ w'.ownsRow n₀ 3 1 (.slice bo lb cb) ka la := by
  have s3 : (so == 3) = true := by simp [hs]
  clear hs
  have h0 : ((w.alloc (.cells #[.int .i64 kd, .int .i64 fm, .string ix, .int .i64 sp, .slice ao ln cp, .slice bo lb cb, .string tb, .int .i64 pc, .bool ib, .int .i64 pl, .int .i64 ee] 76)).alloc (.cells #[.int .i64 0, .int .i64 0, .string ⟨#[]⟩, .int .i64 0, .slice none 0 0, .slice none 0 0, .string ⟨#[]⟩, .int .i64 0, .bool false, .int .i64 0, .int .i64 0] 76)).heap[w.heap.size]? = some (.cells #[.int .i64 kd, .int .i64 fm, .string ix, .int .i64 sp, .slice ao ln cp, .slice bo lb cb, .string tb, .int .i64 pc, .bool ib, .int .i64 pl, .int .i64 ee] 76 (0, 0)) := hup (heap_alloc_new w _) _
  have h1 : ((w.alloc (.cells #[.int .i64 kd, .int .i64 fm, .string ix, .int .i64 sp, .slice ao ln cp, .slice bo lb cb, .string tb, .int .i64 pc, .bool ib, .int .i64 pl, .int .i64 ee] 76)).alloc (.cells #[.int .i64 0, .int .i64 0, .string ⟨#[]⟩, .int .i64 0, .slice none 0 0, .slice none 0 0, .string ⟨#[]⟩, .int .i64 0, .bool false, .int .i64 0, .int .i64 0] 76)).heap[w.heap.size + 1]? = some (.cells #[.int .i64 0, .int .i64 0, .string ⟨#[]⟩, .int .i64 0, .slice none 0 0, .slice none 0 0, .string ⟨#[]⟩, .int .i64 0, .bool false, .int .i64 0, .int .i64 0] 76 (0, 0)) := heap_new2 w _ _
  have hF0 : FrS n₀ w ((w.alloc (.cells #[.int .i64 kd, .int .i64 fm, .string ix, .int .i64 sp, .slice ao ln cp, .slice bo lb cb, .string tb, .int .i64 pc, .bool ib, .int .i64 pl, .int .i64 ee] 76)).alloc (.cells #[.int .i64 0, .int .i64 0, .string ⟨#[]⟩, .int .i64 0, .slice none 0 0, .slice none 0 0, .string ⟨#[]⟩, .int .i64 0, .bool false, .int .i64 0, .int .i64 0] 76)) := ((FrS.refl n₀ w).up hn _).up hn _
  have hM0 := own_up (own_up hM (.cells #[.int .i64 kd, .int .i64 fm, .string ix, .int .i64 sp, .slice ao ln cp, .slice bo lb cb, .string tb, .int .i64 pc, .bool ib, .int .i64 pl, .int .i64 ee] 76)) (.cells #[.int .i64 0, .int .i64 0, .string ⟨#[]⟩, .int .i64 0, .slice none 0 0, .slice none 0 0, .string ⟨#[]⟩, .int .i64 0, .bool false, .int .i64 0, .int .i64 0] 76)
  have hA0 := own_up (own_up hA (.cells #[.int .i64 kd, .int .i64 fm, .string ix, .int .i64 sp, .slice ao ln cp, .slice bo lb cb, .string tb, .int .i64 pc, .bool ib, .int .i64 pl, .int .i64 ee] 76)) (.cells #[.int .i64 0, .int .i64 0, .string ⟨#[]⟩, .int .i64 0, .slice none 0 0, .slice none 0 0, .string ⟨#[]⟩, .int .i64 0, .bool false, .int .i64 0, .int .i64 0] 76)
  obtain ⟨x0, x1, x2, x3, x4, x5, x6, x7, x8, x9, x10⟩ := cells11 h0
  clear hM hA
  go_enter Tryz.func50, Tryz.ntmps50
  go_wp2_with first
    | (go_at_call 66; refine (HN.out _).mono ?_; rintro r w1 ⟨rfl, hb1⟩; have hl1 : w.heap.size + 1 < w1.heap.size := (Array.getElem?_eq_some_iff.1 (hkeep hb1 h1)).1; have R0 := hup (hkeep hb1 h0) (.cells #[.int .i64 d, .int .i64 u, .int .i64 g, .int .i64 m, .string n, .int .i64 s, .int .i64 so, .int .i64 nu, .string fn, .string da, .int .i64 z, .int .i64 0] 133); have S0 := hup (hkeep hb1 h1) (.cells #[.int .i64 d, .int .i64 u, .int .i64 g, .int .i64 m, .string n, .int .i64 s, .int .i64 so, .int .i64 nu, .string fn, .string da, .int .i64 z, .int .i64 0] 133); have T0 := heap_alloc_new w1 (.cells #[.int .i64 d, .int .i64 u, .int .i64 g, .int .i64 m, .string n, .int .i64 s, .int .i64 so, .int .i64 nu, .string fn, .string da, .int .i64 z, .int .i64 0] 133); have F0 := (hF0.on hb1 hn).up hn (.cells #[.int .i64 d, .int .i64 u, .int .i64 g, .int .i64 m, .string n, .int .i64 s, .int .i64 so, .int .i64 nu, .string fn, .string da, .int .i64 z, .int .i64 0] 133); have M0 := own_up (own_on hM0 hb1) (.cells #[.int .i64 d, .int .i64 u, .int .i64 g, .int .i64 m, .string n, .int .i64 s, .int .i64 so, .int .i64 nu, .string fn, .string da, .int .i64 z, .int .i64 0] 133); have A0 := own_up (own_on hA0 hb1) (.cells #[.int .i64 d, .int .i64 u, .int .i64 g, .int .i64 m, .string n, .int .i64 s, .int .i64 so, .int .i64 nu, .string fn, .string da, .int .i64 z, .int .i64 0] 133); obtain ⟨y0, y1, y2, y3, y4, y5, y6, y7, y8, y9, y10, y11⟩ := cells12 T0; obtain ⟨v0, v1, v2, v3, v4, v5, v6, v7, v8, v9, v10⟩ := cells11 R0)
    | (go_at_call 67; refine (HF.out _).mono ?_; rintro r w2 ⟨rfl, hb2⟩; have R1 := hkeep hb2 R0; have S1 := hkeep hb2 S0; have T1 := hkeep hb2 T0; have F1 := F0.on hb2 hn; have M1 := own_on M0 hb2; have A1 := own_on A0 hb2)
    | (refine wpList_store_kq rfl _ _ _ rfl w1.heap.size 0 (.agg #[.int .i64 d, .int .i64 u, .int .i64 g, .int .i64 m, .string n, .int .i64 s, .int .i64 so, .int .i64 nu, .string fn, .string da2, .int .i64 z2, .int .i64 0]) rfl rfl _ _ #[.int .i64 d, .int .i64 u, .int .i64 g, .int .i64 m, .string n, .int .i64 s, .int .i64 so, .int .i64 nu, .string fn, .string da2, .int .i64 z2, .int .i64 0] T1 (by kernel_rfl) rfl rfl rfl ?_; intro W2 T2 Q2; have R2 := Q2.keeps (by omega) R1; have S2 := Q2.keeps (by omega) S1; have F2 := F1.kq Q2 (by omega) hn; have M2 := own_kq M1 Q2 T1 (by decide); have A2 := own_kq A1 Q2 T1 (by decide); obtain ⟨p2_0, p2_1, p2_2, p2_3, p2_4, p2_5, p2_6, p2_7, p2_8, p2_9, p2_10, p2_11⟩ := cells12 T2; obtain ⟨q2_0, q2_1, q2_2, q2_3, q2_4, q2_5, q2_6, q2_7, q2_8, q2_9, q2_10⟩ := cells11 R2)
    | (go_at_call 68; refine (HI.out _).mono ?_; rintro r wq ⟨rfl, hwq⟩; subst wq)
    | (refine wpList_store_kq rfl _ _ _ rfl w.heap.size 6 (.string da2) rfl rfl _ _ #[.int .i64 kd, .int .i64 fm, .string ix, .int .i64 sp, .slice ao ln cp, .slice bo lb cb, .string da2, .int .i64 pc, .bool ib, .int .i64 pl, .int .i64 ee] R2 (by kernel_rfl) rfl rfl rfl ?_; intro W3 R3 Q3; have T3 := Q3.keeps (by omega) T2; have S3 := Q3.keeps (by omega) S2; have F3 := F2.kq Q3 (by omega) hn; have M3 := own_kq M2 Q3 R2 (by decide); have A3 := own_kq A2 Q3 R2 (by decide); obtain ⟨p3_0, p3_1, p3_2, p3_3, p3_4, p3_5, p3_6, p3_7, p3_8, p3_9, p3_10, p3_11⟩ := cells12 T3; obtain ⟨q3_0, q3_1, q3_2, q3_3, q3_4, q3_5, q3_6, q3_7, q3_8, q3_9, q3_10⟩ := cells11 R3)
    | (refine wpList_store_kq rfl _ _ _ rfl w.heap.size 0 (.int .i64 K) rfl rfl _ _ #[.int .i64 K, .int .i64 fm, .string ix, .int .i64 sp, .slice ao ln cp, .slice bo lb cb, .string da2, .int .i64 pc, .bool ib, .int .i64 pl, .int .i64 ee] R3 (by kernel_rfl) rfl rfl rfl ?_; intro W4 R4 Q4; have T4 := Q4.keeps (by omega) T3; have S4 := Q4.keeps (by omega) S3; have F4 := F3.kq Q4 (by omega) hn; have M4 := own_kq M3 Q4 R3 (by decide); have A4 := own_kq A3 Q4 R3 (by decide); obtain ⟨p4_0, p4_1, p4_2, p4_3, p4_4, p4_5, p4_6, p4_7, p4_8, p4_9, p4_10, p4_11⟩ := cells12 T4; obtain ⟨q4_0, q4_1, q4_2, q4_3, q4_4, q4_5, q4_6, q4_7, q4_8, q4_9, q4_10⟩ := cells11 R4)
    | (refine wpList_store_kq rfl _ _ _ rfl w.heap.size 8 (.bool false) rfl rfl _ _ #[.int .i64 K, .int .i64 fm, .string ix, .int .i64 sp, .slice ao ln cp, .slice bo lb cb, .string da2, .int .i64 pc, .bool false, .int .i64 pl, .int .i64 ee] R4 (by kernel_rfl) rfl rfl rfl ?_; intro W5 R5 Q5; have T5 := Q5.keeps (by omega) T4; have S5 := Q5.keeps (by omega) S4; have F5 := F4.kq Q5 (by omega) hn; have M5 := own_kq M4 Q5 R4 (by decide); have A5 := own_kq A4 Q5 R4 (by decide); obtain ⟨p5_0, p5_1, p5_2, p5_3, p5_4, p5_5, p5_6, p5_7, p5_8, p5_9, p5_10, p5_11⟩ := cells12 T5; obtain ⟨q5_0, q5_1, q5_2, q5_3, q5_4, q5_5, q5_6, q5_7, q5_8, q5_9, q5_10⟩ := cells11 R5)
    | (refine wpList_store_kq rfl _ _ _ rfl w.heap.size 7 (.int .i64 (pc + 1)) rfl rfl _ _ #[.int .i64 K, .int .i64 fm, .string ix, .int .i64 sp, .slice ao ln cp, .slice bo lb cb, .string da2, .int .i64 (pc + 1), .bool false, .int .i64 pl, .int .i64 ee] R5 (by kernel_rfl) rfl rfl rfl ?_; intro W6 R6 Q6; have T6 := Q6.keeps (by omega) T5; have S6 := Q6.keeps (by omega) S5; have F6 := F5.kq Q6 (by omega) hn; have M6 := own_kq M5 Q6 R5 (by decide); have A6 := own_kq A5 Q6 R5 (by decide); obtain ⟨p6_0, p6_1, p6_2, p6_3, p6_4, p6_5, p6_6, p6_7, p6_8, p6_9, p6_10, p6_11⟩ := cells12 T6; obtain ⟨q6_0, q6_1, q6_2, q6_3, q6_4, q6_5, q6_6, q6_7, q6_8, q6_9, q6_10⟩ := cells11 R6)
    | (refine wpList_store_kq rfl _ _ _ rfl w.heap.size 9 (.int .i64 z2) rfl rfl _ _ #[.int .i64 K, .int .i64 fm, .string ix, .int .i64 sp, .slice ao ln cp, .slice bo lb cb, .string da2, .int .i64 (pc + 1), .bool false, .int .i64 z2, .int .i64 ee] R6 (by kernel_rfl) rfl rfl rfl ?_; intro W7 R7 Q7; have T7 := Q7.keeps (by omega) T6; have S7 := Q7.keeps (by omega) S6; have F7 := F6.kq Q7 (by omega) hn; have M7 := own_kq M6 Q7 R6 (by decide); have A7 := own_kq A6 Q7 R6 (by decide); obtain ⟨p7_0, p7_1, p7_2, p7_3, p7_4, p7_5, p7_6, p7_7, p7_8, p7_9, p7_10, p7_11⟩ := cells12 T7; obtain ⟨q7_0, q7_1, q7_2, q7_3, q7_4, q7_5, q7_6, q7_7, q7_8, q7_9, q7_10⟩ := cells11 R7)
    | (refine wpList_store_kq rfl _ _ _ rfl (w.heap.size + 1) 0 (.agg #[.int .i64 K, .int .i64 fm, .string ix, .int .i64 sp, .slice ao ln cp, .slice bo lb cb, .string da2, .int .i64 (pc + 1), .bool false, .int .i64 z2, .int .i64 ee]) rfl rfl _ _ #[.int .i64 K, .int .i64 fm, .string ix, .int .i64 sp, .slice ao ln cp, .slice bo lb cb, .string da2, .int .i64 (pc + 1), .bool false, .int .i64 z2, .int .i64 ee] S7 (by kernel_rfl) rfl rfl rfl ?_; intro Wz hWz Qz; have Fz := F7.kq Qz (by omega) hn; have Mz := own_kq M7 Qz S7 (by decide); have Az := own_kq A7 Qz S7 (by decide))
  refine bodyPost_ret (results_cell_row rfl _ _ (w.heap.size + 1) _ _ _ _ rfl hWz Tryz.underlying76 rfl (by kernel_rfl)) rfl ?_
  exact ⟨rfl, Fz, Mz, Az⟩
end Go.Proofs.YtnfplepaejjmfaaGreatDoor

-- arc: the document's step.
namespace Go.Proofs.YtnfplepaejjmfaaGreatDoor
open Go.ChangeShapes Go.WideShapes Go.ChangeAt Go.RowKit Go.Shelf
set_option linter.unusedVariables false
set_option maxRecDepth 100000
set_option maxHeartbeats 4000000 in
theorem step_5 (n₀ : Nat) (b : ByteArray) (kd fm sp pc pl ee : Int) (ix tb : ByteArray) (ib : Bool) (ao bo : Option Addr) (ln cp lb cb : Nat) (lm : List Value) (km : Nat) (la : List Value) (ka : Nat) (d u g m s so nu z en K : Int) (n fn da : ByteArray) (da2 : ByteArray) (z2 en2 : Int) (mn md : ByteArray) (ms e3 : Int) (w : World) (hn : n₀ ≤ w.heap.size)
    (hM : w.ownsRow n₀ 54 7 (.slice ao ln cp) km lm) (hA : w.ownsRow n₀ 3 1 (.slice bo lb cb) ka la)
    (HN : Hid (∀ wx, Calls Tryz.prog 66 #[.string b, .agg #[.int .i64 kd, .int .i64 fm, .string ix, .int .i64 sp, .slice ao ln cp, .slice bo lb cb, .string tb, .int .i64 pc, .bool ib, .int .i64 pl, .int .i64 ee]] wx fun r w' => r = .returned (.tuple #[.agg #[.int .i64 d, .int .i64 u, .int .i64 g, .int .i64 m, .string n, .int .i64 s, .int .i64 so, .int .i64 nu, .string fn, .string da, .int .i64 z, .int .i64 0], .int .i64 K]) ∧ Below wx.heap.size wx w'))
    (HF : Hid (∀ wx, Calls Tryz.prog 67 #[.string b, .int .i64 pl, .int .i64 K, .agg #[.int .i64 d, .int .i64 u, .int .i64 g, .int .i64 m, .string n, .int .i64 s, .int .i64 so, .int .i64 nu, .string fn, .string da, .int .i64 z, .int .i64 0]] wx fun r w' => r = .returned (.agg #[.int .i64 d, .int .i64 u, .int .i64 g, .int .i64 m, .string n, .int .i64 s, .int .i64 so, .int .i64 nu, .string fn, .string da2, .int .i64 z2, .int .i64 0]) ∧ Below wx.heap.size wx w'))
    (HI : Hid (∀ wx, Calls Tryz.prog 68 #[.int .i64 so] wx fun r w' => r = .returned (.bool false) ∧ w' = wx))
    (HMb : Hid (∀ wx, Calls Tryz.prog 70 #[.int .i64 K, .string tb, .agg #[.int .i64 d, .int .i64 u, .int .i64 g, .int .i64 m, .string n, .int .i64 s, .int .i64 so, .int .i64 nu, .string fn, .string da2, .int .i64 z2, .int .i64 0]] wx fun r w' => r = .returned (.tuple #[.agg #[.int .i64 d, .int .i64 u, .int .i64 g, .int .i64 m, .string mn, .int .i64 ms, .string md], .int .i64 e3]) ∧ Below wx.heap.size wx w')) (hs : ¬ so = 3) (he : ¬ e3 = 0) :
    Calls Tryz.prog 50 #[.string b, .agg #[.int .i64 kd, .int .i64 fm, .string ix, .int .i64 sp, .slice ao ln cp, .slice bo lb cb, .string tb, .int .i64 pc, .bool ib, .int .i64 pl, .int .i64 ee]] w fun r w' => r = .returned (.agg #[.int .i64 kd, .int .i64 fm, .string ix, .int .i64 sp, .slice ao ln cp, .slice bo lb cb, .string tb, .int .i64 pc, .bool ib, .int .i64 pl, .int .i64 e3]) ∧ FrS n₀ w w' ∧ w'.ownsRow n₀ 54 7 (.slice ao ln cp) km lm ∧ w'.ownsRow n₀ 3 1 (.slice bo lb cb) ka la := by
  have s3 : (so == 3) = false := by simp [hs]
  clear hs
  have b1he : (e3 == 0) = false := by simp [he]
  have b2he : (e3 != 0) = true := by simp [bne, b1he]
  clear he
  have h0 : ((w.alloc (.cells #[.int .i64 kd, .int .i64 fm, .string ix, .int .i64 sp, .slice ao ln cp, .slice bo lb cb, .string tb, .int .i64 pc, .bool ib, .int .i64 pl, .int .i64 ee] 76)).alloc (.cells #[.int .i64 0, .int .i64 0, .string ⟨#[]⟩, .int .i64 0, .slice none 0 0, .slice none 0 0, .string ⟨#[]⟩, .int .i64 0, .bool false, .int .i64 0, .int .i64 0] 76)).heap[w.heap.size]? = some (.cells #[.int .i64 kd, .int .i64 fm, .string ix, .int .i64 sp, .slice ao ln cp, .slice bo lb cb, .string tb, .int .i64 pc, .bool ib, .int .i64 pl, .int .i64 ee] 76 (0, 0)) := hup (heap_alloc_new w _) _
  have h1 : ((w.alloc (.cells #[.int .i64 kd, .int .i64 fm, .string ix, .int .i64 sp, .slice ao ln cp, .slice bo lb cb, .string tb, .int .i64 pc, .bool ib, .int .i64 pl, .int .i64 ee] 76)).alloc (.cells #[.int .i64 0, .int .i64 0, .string ⟨#[]⟩, .int .i64 0, .slice none 0 0, .slice none 0 0, .string ⟨#[]⟩, .int .i64 0, .bool false, .int .i64 0, .int .i64 0] 76)).heap[w.heap.size + 1]? = some (.cells #[.int .i64 0, .int .i64 0, .string ⟨#[]⟩, .int .i64 0, .slice none 0 0, .slice none 0 0, .string ⟨#[]⟩, .int .i64 0, .bool false, .int .i64 0, .int .i64 0] 76 (0, 0)) := heap_new2 w _ _
  have hF0 : FrS n₀ w ((w.alloc (.cells #[.int .i64 kd, .int .i64 fm, .string ix, .int .i64 sp, .slice ao ln cp, .slice bo lb cb, .string tb, .int .i64 pc, .bool ib, .int .i64 pl, .int .i64 ee] 76)).alloc (.cells #[.int .i64 0, .int .i64 0, .string ⟨#[]⟩, .int .i64 0, .slice none 0 0, .slice none 0 0, .string ⟨#[]⟩, .int .i64 0, .bool false, .int .i64 0, .int .i64 0] 76)) := ((FrS.refl n₀ w).up hn _).up hn _
  have hM0 := own_up (own_up hM (.cells #[.int .i64 kd, .int .i64 fm, .string ix, .int .i64 sp, .slice ao ln cp, .slice bo lb cb, .string tb, .int .i64 pc, .bool ib, .int .i64 pl, .int .i64 ee] 76)) (.cells #[.int .i64 0, .int .i64 0, .string ⟨#[]⟩, .int .i64 0, .slice none 0 0, .slice none 0 0, .string ⟨#[]⟩, .int .i64 0, .bool false, .int .i64 0, .int .i64 0] 76)
  have hA0 := own_up (own_up hA (.cells #[.int .i64 kd, .int .i64 fm, .string ix, .int .i64 sp, .slice ao ln cp, .slice bo lb cb, .string tb, .int .i64 pc, .bool ib, .int .i64 pl, .int .i64 ee] 76)) (.cells #[.int .i64 0, .int .i64 0, .string ⟨#[]⟩, .int .i64 0, .slice none 0 0, .slice none 0 0, .string ⟨#[]⟩, .int .i64 0, .bool false, .int .i64 0, .int .i64 0] 76)
  obtain ⟨x0, x1, x2, x3, x4, x5, x6, x7, x8, x9, x10⟩ := cells11 h0
  clear hM hA
  go_enter Tryz.func50, Tryz.ntmps50
  go_wp2_with first
    | (go_at_call 66; refine (HN.out _).mono ?_; rintro r w1 ⟨rfl, hb1⟩; have hl1 : w.heap.size + 1 < w1.heap.size := (Array.getElem?_eq_some_iff.1 (hkeep hb1 h1)).1; have R0 := hup (hkeep hb1 h0) (.cells #[.int .i64 d, .int .i64 u, .int .i64 g, .int .i64 m, .string n, .int .i64 s, .int .i64 so, .int .i64 nu, .string fn, .string da, .int .i64 z, .int .i64 0] 133); have S0 := hup (hkeep hb1 h1) (.cells #[.int .i64 d, .int .i64 u, .int .i64 g, .int .i64 m, .string n, .int .i64 s, .int .i64 so, .int .i64 nu, .string fn, .string da, .int .i64 z, .int .i64 0] 133); have T0 := heap_alloc_new w1 (.cells #[.int .i64 d, .int .i64 u, .int .i64 g, .int .i64 m, .string n, .int .i64 s, .int .i64 so, .int .i64 nu, .string fn, .string da, .int .i64 z, .int .i64 0] 133); have F0 := (hF0.on hb1 hn).up hn (.cells #[.int .i64 d, .int .i64 u, .int .i64 g, .int .i64 m, .string n, .int .i64 s, .int .i64 so, .int .i64 nu, .string fn, .string da, .int .i64 z, .int .i64 0] 133); have M0 := own_up (own_on hM0 hb1) (.cells #[.int .i64 d, .int .i64 u, .int .i64 g, .int .i64 m, .string n, .int .i64 s, .int .i64 so, .int .i64 nu, .string fn, .string da, .int .i64 z, .int .i64 0] 133); have A0 := own_up (own_on hA0 hb1) (.cells #[.int .i64 d, .int .i64 u, .int .i64 g, .int .i64 m, .string n, .int .i64 s, .int .i64 so, .int .i64 nu, .string fn, .string da, .int .i64 z, .int .i64 0] 133); obtain ⟨y0, y1, y2, y3, y4, y5, y6, y7, y8, y9, y10, y11⟩ := cells12 T0; obtain ⟨v0, v1, v2, v3, v4, v5, v6, v7, v8, v9, v10⟩ := cells11 R0)
    | (go_at_call 67; refine (HF.out _).mono ?_; rintro r w2 ⟨rfl, hb2⟩; have R1 := hkeep hb2 R0; have S1 := hkeep hb2 S0; have T1 := hkeep hb2 T0; have F1 := F0.on hb2 hn; have M1 := own_on M0 hb2; have A1 := own_on A0 hb2)
    | (refine wpList_store_kq rfl _ _ _ rfl w1.heap.size 0 (.agg #[.int .i64 d, .int .i64 u, .int .i64 g, .int .i64 m, .string n, .int .i64 s, .int .i64 so, .int .i64 nu, .string fn, .string da2, .int .i64 z2, .int .i64 0]) rfl rfl _ _ #[.int .i64 d, .int .i64 u, .int .i64 g, .int .i64 m, .string n, .int .i64 s, .int .i64 so, .int .i64 nu, .string fn, .string da2, .int .i64 z2, .int .i64 0] T1 (by kernel_rfl) rfl rfl rfl ?_; intro W2 T2 Q2; have R2 := Q2.keeps (by omega) R1; have S2 := Q2.keeps (by omega) S1; have F2 := F1.kq Q2 (by omega) hn; have M2 := own_kq M1 Q2 T1 (by decide); have A2 := own_kq A1 Q2 T1 (by decide); obtain ⟨p2_0, p2_1, p2_2, p2_3, p2_4, p2_5, p2_6, p2_7, p2_8, p2_9, p2_10, p2_11⟩ := cells12 T2; obtain ⟨q2_0, q2_1, q2_2, q2_3, q2_4, q2_5, q2_6, q2_7, q2_8, q2_9, q2_10⟩ := cells11 R2)
    | (go_at_call 68; refine (HI.out _).mono ?_; rintro r wq ⟨rfl, hwq⟩; subst wq)
    | (go_at_call 70; refine (HMb.out _).mono ?_; rintro r w3 ⟨rfl, hb3⟩; have hl3 : w1.heap.size < w3.heap.size := (Array.getElem?_eq_some_iff.1 (hkeep hb3 T2)).1; have R3 := hup (hkeep hb3 R2) (.cells #[.int .i64 d, .int .i64 u, .int .i64 g, .int .i64 m, .string mn, .int .i64 ms, .string md] 54); have S3 := hup (hkeep hb3 S2) (.cells #[.int .i64 d, .int .i64 u, .int .i64 g, .int .i64 m, .string mn, .int .i64 ms, .string md] 54); have T3 := hup (hkeep hb3 T2) (.cells #[.int .i64 d, .int .i64 u, .int .i64 g, .int .i64 m, .string mn, .int .i64 ms, .string md] 54); have X3 := heap_alloc_new w3 (.cells #[.int .i64 d, .int .i64 u, .int .i64 g, .int .i64 m, .string mn, .int .i64 ms, .string md] 54); have F3 := (F2.on hb3 hn).up hn (.cells #[.int .i64 d, .int .i64 u, .int .i64 g, .int .i64 m, .string mn, .int .i64 ms, .string md] 54); have M3 := own_up (own_on M2 hb3) (.cells #[.int .i64 d, .int .i64 u, .int .i64 g, .int .i64 m, .string mn, .int .i64 ms, .string md] 54); have A3 := own_up (own_on A2 hb3) (.cells #[.int .i64 d, .int .i64 u, .int .i64 g, .int .i64 m, .string mn, .int .i64 ms, .string md] 54); obtain ⟨p3_0, p3_1, p3_2, p3_3, p3_4, p3_5, p3_6, p3_7, p3_8, p3_9, p3_10, p3_11⟩ := cells12 T3; obtain ⟨q3_0, q3_1, q3_2, q3_3, q3_4, q3_5, q3_6, q3_7, q3_8, q3_9, q3_10⟩ := cells11 R3; have nw := new_row (w3.alloc (.cells #[.int .i64 d, .int .i64 u, .int .i64 g, .int .i64 m, .string mn, .int .i64 ms, .string md] 54)) #[.int .i64 d, .int .i64 u, .int .i64 g, .int .i64 m, .string mn, .int .i64 ms, .string md] 54 [.int .i64 d, .int .i64 u, .int .i64 g, .int .i64 m, .string mn, .int .i64 ms, .string md] rfl; have hwl : (w3.alloc (.cells #[.int .i64 d, .int .i64 u, .int .i64 g, .int .i64 m, .string mn, .int .i64 ms, .string md] 54)).heap.size = w3.heap.size + 1 := World.size_alloc _ _; rw [hwl] at nw; have R3' := hup R3 (.cells #[.int .i64 d, .int .i64 u, .int .i64 g, .int .i64 m, .string mn, .int .i64 ms, .string md] 54); have S3' := hup S3 (.cells #[.int .i64 d, .int .i64 u, .int .i64 g, .int .i64 m, .string mn, .int .i64 ms, .string md] 54); have T3' := hup T3 (.cells #[.int .i64 d, .int .i64 u, .int .i64 g, .int .i64 m, .string mn, .int .i64 ms, .string md] 54); have F3' := F3.up hn (.cells #[.int .i64 d, .int .i64 u, .int .i64 g, .int .i64 m, .string mn, .int .i64 ms, .string md] 54); have M3' := own_up M3 (.cells #[.int .i64 d, .int .i64 u, .int .i64 g, .int .i64 m, .string mn, .int .i64 ms, .string md] 54); have A3' := own_up A3 (.cells #[.int .i64 d, .int .i64 u, .int .i64 g, .int .i64 m, .string mn, .int .i64 ms, .string md] 54); have hnn : n₀ ≤ ((w3.alloc (.cells #[.int .i64 d, .int .i64 u, .int .i64 g, .int .i64 m, .string mn, .int .i64 ms, .string md] 54)).alloc (.cells #[.int .i64 d, .int .i64 u, .int .i64 g, .int .i64 m, .string mn, .int .i64 ms, .string md] 54)).heap.size := Nat.le_trans hn F3'.below.size)
    | (refine wpList_store_kq rfl _ _ _ rfl w.heap.size 10 (.int .i64 e3) rfl rfl _ _ #[.int .i64 kd, .int .i64 fm, .string ix, .int .i64 sp, .slice ao ln cp, .slice bo lb cb, .string tb, .int .i64 pc, .bool ib, .int .i64 pl, .int .i64 e3] R3 (by kernel_rfl) rfl rfl rfl ?_; intro W4 R4 Q4; have T4 := Q4.keeps (by omega) T3; have S4 := Q4.keeps (by omega) S3; have F4 := F3.kq Q4 (by omega) hn; have M4 := own_kq M3 Q4 R3 (by decide); have A4 := own_kq A3 Q4 R3 (by decide); obtain ⟨p4_0, p4_1, p4_2, p4_3, p4_4, p4_5, p4_6, p4_7, p4_8, p4_9, p4_10, p4_11⟩ := cells12 T4; obtain ⟨q4_0, q4_1, q4_2, q4_3, q4_4, q4_5, q4_6, q4_7, q4_8, q4_9, q4_10⟩ := cells11 R4)
    | (refine wpList_store_kq rfl _ _ _ rfl (w.heap.size + 1) 0 (.agg #[.int .i64 kd, .int .i64 fm, .string ix, .int .i64 sp, .slice ao ln cp, .slice bo lb cb, .string tb, .int .i64 pc, .bool ib, .int .i64 pl, .int .i64 e3]) rfl rfl _ _ #[.int .i64 kd, .int .i64 fm, .string ix, .int .i64 sp, .slice ao ln cp, .slice bo lb cb, .string tb, .int .i64 pc, .bool ib, .int .i64 pl, .int .i64 e3] S4 (by kernel_rfl) rfl rfl rfl ?_; intro Wz hWz Qz; have Fz := F4.kq Qz (by omega) hn; have Mz := own_kq M4 Qz S4 (by decide); have Az := own_kq A4 Qz S4 (by decide))
  refine bodyPost_ret (results_cell_row rfl _ _ (w.heap.size + 1) _ _ _ _ rfl hWz Tryz.underlying76 rfl (by kernel_rfl)) rfl ?_
  exact ⟨rfl, Fz, Mz, Az⟩
end Go.Proofs.YtnfplepaejjmfaaGreatDoor

-- arc: the document's step.
namespace Go.Proofs.YtnfplepaejjmfaaGreatDoor
open Go.ChangeShapes Go.WideShapes Go.ChangeAt Go.RowKit Go.Shelf
set_option linter.unusedVariables false
set_option maxRecDepth 100000
set_option maxHeartbeats 4000000 in
theorem step_6 (n₀ : Nat) (b : ByteArray) (kd fm sp pc pl ee : Int) (ix tb : ByteArray) (ib : Bool) (ao bo : Option Addr) (ln cp lb cb : Nat) (lm : List Value) (km : Nat) (la : List Value) (ka : Nat) (d u g m s so nu z en K : Int) (n fn da : ByteArray) (da2 : ByteArray) (z2 en2 : Int) (mn md : ByteArray) (ms e3 : Int) (w : World) (hn : n₀ ≤ w.heap.size)
    (hM : w.ownsRow n₀ 54 7 (.slice ao ln cp) km lm) (hA : w.ownsRow n₀ 3 1 (.slice bo lb cb) ka la)
    (HN : Hid (∀ wx, Calls Tryz.prog 66 #[.string b, .agg #[.int .i64 kd, .int .i64 fm, .string ix, .int .i64 sp, .slice ao ln cp, .slice bo lb cb, .string tb, .int .i64 pc, .bool ib, .int .i64 pl, .int .i64 ee]] wx fun r w' => r = .returned (.tuple #[.agg #[.int .i64 d, .int .i64 u, .int .i64 g, .int .i64 m, .string n, .int .i64 s, .int .i64 so, .int .i64 nu, .string fn, .string da, .int .i64 z, .int .i64 0], .int .i64 K]) ∧ Below wx.heap.size wx w'))
    (HF : Hid (∀ wx, Calls Tryz.prog 67 #[.string b, .int .i64 pl, .int .i64 K, .agg #[.int .i64 d, .int .i64 u, .int .i64 g, .int .i64 m, .string n, .int .i64 s, .int .i64 so, .int .i64 nu, .string fn, .string da, .int .i64 z, .int .i64 0]] wx fun r w' => r = .returned (.agg #[.int .i64 d, .int .i64 u, .int .i64 g, .int .i64 m, .string n, .int .i64 s, .int .i64 so, .int .i64 nu, .string fn, .string da2, .int .i64 z2, .int .i64 0]) ∧ Below wx.heap.size wx w'))
    (HI : Hid (∀ wx, Calls Tryz.prog 68 #[.int .i64 so] wx fun r w' => r = .returned (.bool false) ∧ w' = wx))
    (HMb : Hid (∀ wx, Calls Tryz.prog 70 #[.int .i64 K, .string tb, .agg #[.int .i64 d, .int .i64 u, .int .i64 g, .int .i64 m, .string n, .int .i64 s, .int .i64 so, .int .i64 nu, .string fn, .string da2, .int .i64 z2, .int .i64 0]] wx fun r w' => r = .returned (.tuple #[.agg #[.int .i64 d, .int .i64 u, .int .i64 g, .int .i64 m, .string mn, .int .i64 ms, .string md], .int .i64 0]) ∧ Below wx.heap.size wx w')) (hp0 : 0 ≤ pc) (hp1 : pc < 4611686018427387904) (hs : ¬ so = 3) (hk1 : km < 4294967296) (hk2 : ka < 4294967296) :
    Calls Tryz.prog 50 #[.string b, .agg #[.int .i64 kd, .int .i64 fm, .string ix, .int .i64 sp, .slice ao ln cp, .slice bo lb cb, .string tb, .int .i64 pc, .bool ib, .int .i64 pl, .int .i64 ee]] w fun r w' => ∃ am lm' cm aa l1 ca, r = .returned (.agg #[.int .i64 K, .int .i64 fm, .string ix, .int .i64 sp, .slice am lm' cm, .slice aa l1 ca, .string tb, .int .i64 (pc + 1), .bool false, .int .i64 z2, .int .i64 ee]) ∧ FrS n₀ w w' ∧ w'.ownsRow n₀ 54 7 (.slice am lm' cm) (km + 1) (lm ++ [.int .i64 d, .int .i64 u, .int .i64 g, .int .i64 m, .string mn, .int .i64 ms, .string md]) ∧ w'.ownsRow n₀ 3 1 (.slice aa l1 ca) (ka + 1) (la ++ [.int .i64 pl]) := by
  have s3 : (so == 3) = false := by simp [hs]
  clear hs
  obtain ⟨i0, hi, hz0, hz1, hz2⟩ := info_parts infoM
  obtain ⟨i3, hi3, hy0, hy1, hy2⟩ := info_parts info3
  have h0 : ((w.alloc (.cells #[.int .i64 kd, .int .i64 fm, .string ix, .int .i64 sp, .slice ao ln cp, .slice bo lb cb, .string tb, .int .i64 pc, .bool ib, .int .i64 pl, .int .i64 ee] 76)).alloc (.cells #[.int .i64 0, .int .i64 0, .string ⟨#[]⟩, .int .i64 0, .slice none 0 0, .slice none 0 0, .string ⟨#[]⟩, .int .i64 0, .bool false, .int .i64 0, .int .i64 0] 76)).heap[w.heap.size]? = some (.cells #[.int .i64 kd, .int .i64 fm, .string ix, .int .i64 sp, .slice ao ln cp, .slice bo lb cb, .string tb, .int .i64 pc, .bool ib, .int .i64 pl, .int .i64 ee] 76 (0, 0)) := hup (heap_alloc_new w _) _
  have h1 : ((w.alloc (.cells #[.int .i64 kd, .int .i64 fm, .string ix, .int .i64 sp, .slice ao ln cp, .slice bo lb cb, .string tb, .int .i64 pc, .bool ib, .int .i64 pl, .int .i64 ee] 76)).alloc (.cells #[.int .i64 0, .int .i64 0, .string ⟨#[]⟩, .int .i64 0, .slice none 0 0, .slice none 0 0, .string ⟨#[]⟩, .int .i64 0, .bool false, .int .i64 0, .int .i64 0] 76)).heap[w.heap.size + 1]? = some (.cells #[.int .i64 0, .int .i64 0, .string ⟨#[]⟩, .int .i64 0, .slice none 0 0, .slice none 0 0, .string ⟨#[]⟩, .int .i64 0, .bool false, .int .i64 0, .int .i64 0] 76 (0, 0)) := heap_new2 w _ _
  have hF0 : FrS n₀ w ((w.alloc (.cells #[.int .i64 kd, .int .i64 fm, .string ix, .int .i64 sp, .slice ao ln cp, .slice bo lb cb, .string tb, .int .i64 pc, .bool ib, .int .i64 pl, .int .i64 ee] 76)).alloc (.cells #[.int .i64 0, .int .i64 0, .string ⟨#[]⟩, .int .i64 0, .slice none 0 0, .slice none 0 0, .string ⟨#[]⟩, .int .i64 0, .bool false, .int .i64 0, .int .i64 0] 76)) := ((FrS.refl n₀ w).up hn _).up hn _
  have hM0 := own_up (own_up hM (.cells #[.int .i64 kd, .int .i64 fm, .string ix, .int .i64 sp, .slice ao ln cp, .slice bo lb cb, .string tb, .int .i64 pc, .bool ib, .int .i64 pl, .int .i64 ee] 76)) (.cells #[.int .i64 0, .int .i64 0, .string ⟨#[]⟩, .int .i64 0, .slice none 0 0, .slice none 0 0, .string ⟨#[]⟩, .int .i64 0, .bool false, .int .i64 0, .int .i64 0] 76)
  have hA0 := own_up (own_up hA (.cells #[.int .i64 kd, .int .i64 fm, .string ix, .int .i64 sp, .slice ao ln cp, .slice bo lb cb, .string tb, .int .i64 pc, .bool ib, .int .i64 pl, .int .i64 ee] 76)) (.cells #[.int .i64 0, .int .i64 0, .string ⟨#[]⟩, .int .i64 0, .slice none 0 0, .slice none 0 0, .string ⟨#[]⟩, .int .i64 0, .bool false, .int .i64 0, .int .i64 0] 76)
  obtain ⟨x0, x1, x2, x3, x4, x5, x6, x7, x8, x9, x10⟩ := cells11 h0
  clear hM hA
  go_enter Tryz.func50, Tryz.ntmps50
  go_wp2_with first
    | (go_at_call 66; refine (HN.out _).mono ?_; rintro r w1 ⟨rfl, hb1⟩; have hl1 : w.heap.size + 1 < w1.heap.size := (Array.getElem?_eq_some_iff.1 (hkeep hb1 h1)).1; have R0 := hup (hkeep hb1 h0) (.cells #[.int .i64 d, .int .i64 u, .int .i64 g, .int .i64 m, .string n, .int .i64 s, .int .i64 so, .int .i64 nu, .string fn, .string da, .int .i64 z, .int .i64 0] 133); have S0 := hup (hkeep hb1 h1) (.cells #[.int .i64 d, .int .i64 u, .int .i64 g, .int .i64 m, .string n, .int .i64 s, .int .i64 so, .int .i64 nu, .string fn, .string da, .int .i64 z, .int .i64 0] 133); have T0 := heap_alloc_new w1 (.cells #[.int .i64 d, .int .i64 u, .int .i64 g, .int .i64 m, .string n, .int .i64 s, .int .i64 so, .int .i64 nu, .string fn, .string da, .int .i64 z, .int .i64 0] 133); have F0 := (hF0.on hb1 hn).up hn (.cells #[.int .i64 d, .int .i64 u, .int .i64 g, .int .i64 m, .string n, .int .i64 s, .int .i64 so, .int .i64 nu, .string fn, .string da, .int .i64 z, .int .i64 0] 133); have M0 := own_up (own_on hM0 hb1) (.cells #[.int .i64 d, .int .i64 u, .int .i64 g, .int .i64 m, .string n, .int .i64 s, .int .i64 so, .int .i64 nu, .string fn, .string da, .int .i64 z, .int .i64 0] 133); have A0 := own_up (own_on hA0 hb1) (.cells #[.int .i64 d, .int .i64 u, .int .i64 g, .int .i64 m, .string n, .int .i64 s, .int .i64 so, .int .i64 nu, .string fn, .string da, .int .i64 z, .int .i64 0] 133); obtain ⟨y0, y1, y2, y3, y4, y5, y6, y7, y8, y9, y10, y11⟩ := cells12 T0; obtain ⟨v0, v1, v2, v3, v4, v5, v6, v7, v8, v9, v10⟩ := cells11 R0)
    | (go_at_call 67; refine (HF.out _).mono ?_; rintro r w2 ⟨rfl, hb2⟩; have R1 := hkeep hb2 R0; have S1 := hkeep hb2 S0; have T1 := hkeep hb2 T0; have F1 := F0.on hb2 hn; have M1 := own_on M0 hb2; have A1 := own_on A0 hb2)
    | (refine wpList_store_kq rfl _ _ _ rfl w1.heap.size 0 (.agg #[.int .i64 d, .int .i64 u, .int .i64 g, .int .i64 m, .string n, .int .i64 s, .int .i64 so, .int .i64 nu, .string fn, .string da2, .int .i64 z2, .int .i64 0]) rfl rfl _ _ #[.int .i64 d, .int .i64 u, .int .i64 g, .int .i64 m, .string n, .int .i64 s, .int .i64 so, .int .i64 nu, .string fn, .string da2, .int .i64 z2, .int .i64 0] T1 (by kernel_rfl) rfl rfl rfl ?_; intro W2 T2 Q2; have R2 := Q2.keeps (by omega) R1; have S2 := Q2.keeps (by omega) S1; have F2 := F1.kq Q2 (by omega) hn; have M2 := own_kq M1 Q2 T1 (by decide); have A2 := own_kq A1 Q2 T1 (by decide); obtain ⟨p2_0, p2_1, p2_2, p2_3, p2_4, p2_5, p2_6, p2_7, p2_8, p2_9, p2_10, p2_11⟩ := cells12 T2; obtain ⟨q2_0, q2_1, q2_2, q2_3, q2_4, q2_5, q2_6, q2_7, q2_8, q2_9, q2_10⟩ := cells11 R2)
    | (go_at_call 68; refine (HI.out _).mono ?_; rintro r wq ⟨rfl, hwq⟩; subst wq)
    | (go_at_call 70; refine (HMb.out _).mono ?_; rintro r w3 ⟨rfl, hb3⟩; have hl3 : w1.heap.size < w3.heap.size := (Array.getElem?_eq_some_iff.1 (hkeep hb3 T2)).1; have R3 := hup (hkeep hb3 R2) (.cells #[.int .i64 d, .int .i64 u, .int .i64 g, .int .i64 m, .string mn, .int .i64 ms, .string md] 54); have S3 := hup (hkeep hb3 S2) (.cells #[.int .i64 d, .int .i64 u, .int .i64 g, .int .i64 m, .string mn, .int .i64 ms, .string md] 54); have T3 := hup (hkeep hb3 T2) (.cells #[.int .i64 d, .int .i64 u, .int .i64 g, .int .i64 m, .string mn, .int .i64 ms, .string md] 54); have X3 := heap_alloc_new w3 (.cells #[.int .i64 d, .int .i64 u, .int .i64 g, .int .i64 m, .string mn, .int .i64 ms, .string md] 54); have F3 := (F2.on hb3 hn).up hn (.cells #[.int .i64 d, .int .i64 u, .int .i64 g, .int .i64 m, .string mn, .int .i64 ms, .string md] 54); have M3 := own_up (own_on M2 hb3) (.cells #[.int .i64 d, .int .i64 u, .int .i64 g, .int .i64 m, .string mn, .int .i64 ms, .string md] 54); have A3 := own_up (own_on A2 hb3) (.cells #[.int .i64 d, .int .i64 u, .int .i64 g, .int .i64 m, .string mn, .int .i64 ms, .string md] 54); obtain ⟨p3_0, p3_1, p3_2, p3_3, p3_4, p3_5, p3_6, p3_7, p3_8, p3_9, p3_10, p3_11⟩ := cells12 T3; obtain ⟨q3_0, q3_1, q3_2, q3_3, q3_4, q3_5, q3_6, q3_7, q3_8, q3_9, q3_10⟩ := cells11 R3; have nw := new_row (w3.alloc (.cells #[.int .i64 d, .int .i64 u, .int .i64 g, .int .i64 m, .string mn, .int .i64 ms, .string md] 54)) #[.int .i64 d, .int .i64 u, .int .i64 g, .int .i64 m, .string mn, .int .i64 ms, .string md] 54 [.int .i64 d, .int .i64 u, .int .i64 g, .int .i64 m, .string mn, .int .i64 ms, .string md] rfl; have hwl : (w3.alloc (.cells #[.int .i64 d, .int .i64 u, .int .i64 g, .int .i64 m, .string mn, .int .i64 ms, .string md] 54)).heap.size = w3.heap.size + 1 := World.size_alloc _ _; rw [hwl] at nw; have R3' := hup R3 (.cells #[.int .i64 d, .int .i64 u, .int .i64 g, .int .i64 m, .string mn, .int .i64 ms, .string md] 54); have S3' := hup S3 (.cells #[.int .i64 d, .int .i64 u, .int .i64 g, .int .i64 m, .string mn, .int .i64 ms, .string md] 54); have T3' := hup T3 (.cells #[.int .i64 d, .int .i64 u, .int .i64 g, .int .i64 m, .string mn, .int .i64 ms, .string md] 54); have F3' := F3.up hn (.cells #[.int .i64 d, .int .i64 u, .int .i64 g, .int .i64 m, .string mn, .int .i64 ms, .string md] 54); have M3' := own_up M3 (.cells #[.int .i64 d, .int .i64 u, .int .i64 g, .int .i64 m, .string mn, .int .i64 ms, .string md] 54); have A3' := own_up A3 (.cells #[.int .i64 d, .int .i64 u, .int .i64 g, .int .i64 m, .string mn, .int .i64 ms, .string md] 54); have hnn : n₀ ≤ ((w3.alloc (.cells #[.int .i64 d, .int .i64 u, .int .i64 g, .int .i64 m, .string mn, .int .i64 ms, .string md] 54)).alloc (.cells #[.int .i64 d, .int .i64 u, .int .i64 g, .int .i64 m, .string mn, .int .i64 ms, .string md] 54)).heap.size := Nat.le_trans hn F3'.below.size)
    | (refine wpList_append_own _ rfl (.tmp 79) (.tmp 81) 23 rfl n₀ 54 i0 (.agg #[.int .i64 0, .int .i64 0, .int .i64 0, .int .i64 0, .string ⟨#[]⟩, .int .i64 0, .string ⟨#[]⟩]) 7 72 Tryz.underlying23 hi hz0 hz1 hz2 rfl (by decide) (.slice ao ln cp) km lm rfl M3' ⟨w3.heap.size + 1, 0, none⟩ 1 1 [.int .i64 d, .int .i64 u, .int .i64 g, .int .i64 m, .string mn, .int .i64 ms, .string md] rfl rfl nw (by intro u hu; simp at hu; rcases hu with rfl | rfl | rfl | rfl | rfl | rfl | rfl <;> rfl) (by unfold maxLen; omega) (by omega) hnn ?_; intro v5 w5 ho5 hg5 _; obtain ⟨g5, cap5, rfl⟩ := ownsRow_succ ho5; have R4 := row_grown R3' M3' (by decide) hg5; have S4 := row_grown S3' M3' (by decide) hg5; have T4 := row_grown T3' M3' (by decide) hg5; have F4 := F3'.grown hg5 M3' hn (.inl rfl); have A4 := own_grown A3' M3' (by decide) hg5; have M4 := ho5; obtain ⟨q4_0, q4_1, q4_2, q4_3, q4_4, q4_5, q4_6, q4_7, q4_8, q4_9, q4_10⟩ := cells11 R4)
    | (refine wpList_store_kq rfl _ _ _ rfl w.heap.size 4 (.slice (some ⟨g5, 0, none⟩) (km + 1) cap5) rfl rfl _ _ #[.int .i64 kd, .int .i64 fm, .string ix, .int .i64 sp, .slice (some ⟨g5, 0, none⟩) (km + 1) cap5, .slice bo lb cb, .string tb, .int .i64 pc, .bool ib, .int .i64 pl, .int .i64 ee] R4 (by kernel_rfl) rfl rfl rfl ?_; intro W5 R5 Q5; have T5 := Q5.keeps (by omega) T4; have S5 := Q5.keeps (by omega) S4; have F5 := F4.kq Q5 (by omega) hn; have M5 := own_kq M4 Q5 R4 (by decide); have A5 := own_kq A4 Q5 R4 (by decide); obtain ⟨p5_0, p5_1, p5_2, p5_3, p5_4, p5_5, p5_6, p5_7, p5_8, p5_9, p5_10, p5_11⟩ := cells12 T5; obtain ⟨q5_0, q5_1, q5_2, q5_3, q5_4, q5_5, q5_6, q5_7, q5_8, q5_9, q5_10⟩ := cells11 R5)
    | (refine wpList_append_own _ rfl (.tmp 88) (.tmp 91) 22 rfl n₀ 3 i3 (.int .i64 0) 1 8 Tryz.underlying22 hi3 hy0 hy1 hy2 rfl (by decide) (.slice bo lb cb) ka la rfl (own_up A5 (.cells #[.int .i64 pl] 3)) ⟨W5.heap.size, 0, none⟩ 1 1 [.int .i64 pl] rfl rfl (new_row W5 #[.int .i64 pl] 3 [.int .i64 pl] rfl) (by intro u hu; simp at hu; subst hu; rfl) (by unfold maxLen; omega) (by omega) (by rw [World.size_alloc]; exact Nat.le_succ_of_le (Nat.le_trans hn F5.below.size)) ?_; intro v6 w6 ho6 hg6 _; obtain ⟨g6, cap6, rfl⟩ := ownsRow_succ ho6; have R6 := row_grown (hup R5 (.cells #[.int .i64 pl] 3)) (own_up A5 (.cells #[.int .i64 pl] 3)) (by decide) hg6; have S6 := row_grown (hup S5 (.cells #[.int .i64 pl] 3)) (own_up A5 (.cells #[.int .i64 pl] 3)) (by decide) hg6; have T6 := row_grown (hup T5 (.cells #[.int .i64 pl] 3)) (own_up A5 (.cells #[.int .i64 pl] 3)) (by decide) hg6; have F6 := (F5.up hn (.cells #[.int .i64 pl] 3)).grown hg6 (own_up A5 (.cells #[.int .i64 pl] 3)) hn (.inr rfl); have M6 := own_grown (own_up M5 (.cells #[.int .i64 pl] 3)) (own_up A5 (.cells #[.int .i64 pl] 3)) (by decide) hg6; have A6 := ho6; obtain ⟨p6_0, p6_1, p6_2, p6_3, p6_4, p6_5, p6_6, p6_7, p6_8, p6_9, p6_10, p6_11⟩ := cells12 T6; obtain ⟨q6_0, q6_1, q6_2, q6_3, q6_4, q6_5, q6_6, q6_7, q6_8, q6_9, q6_10⟩ := cells11 R6)
    | (refine wpList_store_kq rfl _ _ _ rfl w.heap.size 5 (.slice (some ⟨g6, 0, none⟩) (ka + 1) cap6) rfl rfl _ _ #[.int .i64 kd, .int .i64 fm, .string ix, .int .i64 sp, .slice (some ⟨g5, 0, none⟩) (km + 1) cap5, .slice (some ⟨g6, 0, none⟩) (ka + 1) cap6, .string tb, .int .i64 pc, .bool ib, .int .i64 pl, .int .i64 ee] R6 (by kernel_rfl) rfl rfl rfl ?_; intro W7 R7 Q7; have T7 := Q7.keeps (by omega) T6; have S7 := Q7.keeps (by omega) S6; have F7 := F6.kq Q7 (by omega) hn; have M7 := own_kq M6 Q7 R6 (by decide); have A7 := own_kq A6 Q7 R6 (by decide); obtain ⟨p7_0, p7_1, p7_2, p7_3, p7_4, p7_5, p7_6, p7_7, p7_8, p7_9, p7_10, p7_11⟩ := cells12 T7; obtain ⟨q7_0, q7_1, q7_2, q7_3, q7_4, q7_5, q7_6, q7_7, q7_8, q7_9, q7_10⟩ := cells11 R7)
    | (refine wpList_store_kq rfl _ _ _ rfl w.heap.size 0 (.int .i64 K) rfl rfl _ _ #[.int .i64 K, .int .i64 fm, .string ix, .int .i64 sp, .slice (some ⟨g5, 0, none⟩) (km + 1) cap5, .slice (some ⟨g6, 0, none⟩) (ka + 1) cap6, .string tb, .int .i64 pc, .bool ib, .int .i64 pl, .int .i64 ee] R7 (by kernel_rfl) rfl rfl rfl ?_; intro W8 R8 Q8; have T8 := Q8.keeps (by omega) T7; have S8 := Q8.keeps (by omega) S7; have F8 := F7.kq Q8 (by omega) hn; have M8 := own_kq M7 Q8 R7 (by decide); have A8 := own_kq A7 Q8 R7 (by decide); obtain ⟨p8_0, p8_1, p8_2, p8_3, p8_4, p8_5, p8_6, p8_7, p8_8, p8_9, p8_10, p8_11⟩ := cells12 T8; obtain ⟨q8_0, q8_1, q8_2, q8_3, q8_4, q8_5, q8_6, q8_7, q8_8, q8_9, q8_10⟩ := cells11 R8)
    | (refine wpList_store_kq rfl _ _ _ rfl w.heap.size 8 (.bool false) rfl rfl _ _ #[.int .i64 K, .int .i64 fm, .string ix, .int .i64 sp, .slice (some ⟨g5, 0, none⟩) (km + 1) cap5, .slice (some ⟨g6, 0, none⟩) (ka + 1) cap6, .string tb, .int .i64 pc, .bool false, .int .i64 pl, .int .i64 ee] R8 (by kernel_rfl) rfl rfl rfl ?_; intro W9 R9 Q9; have T9 := Q9.keeps (by omega) T8; have S9 := Q9.keeps (by omega) S8; have F9 := F8.kq Q9 (by omega) hn; have M9 := own_kq M8 Q9 R8 (by decide); have A9 := own_kq A8 Q9 R8 (by decide); obtain ⟨p9_0, p9_1, p9_2, p9_3, p9_4, p9_5, p9_6, p9_7, p9_8, p9_9, p9_10, p9_11⟩ := cells12 T9; obtain ⟨q9_0, q9_1, q9_2, q9_3, q9_4, q9_5, q9_6, q9_7, q9_8, q9_9, q9_10⟩ := cells11 R9)
    | (refine wpList_store_kq rfl _ _ _ rfl w.heap.size 7 (.int .i64 (pc + 1)) rfl rfl _ _ #[.int .i64 K, .int .i64 fm, .string ix, .int .i64 sp, .slice (some ⟨g5, 0, none⟩) (km + 1) cap5, .slice (some ⟨g6, 0, none⟩) (ka + 1) cap6, .string tb, .int .i64 (pc + 1), .bool false, .int .i64 pl, .int .i64 ee] R9 (by kernel_rfl) rfl rfl rfl ?_; intro W10 R10 Q10; have T10 := Q10.keeps (by omega) T9; have S10 := Q10.keeps (by omega) S9; have F10 := F9.kq Q10 (by omega) hn; have M10 := own_kq M9 Q10 R9 (by decide); have A10 := own_kq A9 Q10 R9 (by decide); obtain ⟨p10_0, p10_1, p10_2, p10_3, p10_4, p10_5, p10_6, p10_7, p10_8, p10_9, p10_10, p10_11⟩ := cells12 T10; obtain ⟨q10_0, q10_1, q10_2, q10_3, q10_4, q10_5, q10_6, q10_7, q10_8, q10_9, q10_10⟩ := cells11 R10)
    | (refine wpList_store_kq rfl _ _ _ rfl w.heap.size 9 (.int .i64 z2) rfl rfl _ _ #[.int .i64 K, .int .i64 fm, .string ix, .int .i64 sp, .slice (some ⟨g5, 0, none⟩) (km + 1) cap5, .slice (some ⟨g6, 0, none⟩) (ka + 1) cap6, .string tb, .int .i64 (pc + 1), .bool false, .int .i64 z2, .int .i64 ee] R10 (by kernel_rfl) rfl rfl rfl ?_; intro W11 R11 Q11; have T11 := Q11.keeps (by omega) T10; have S11 := Q11.keeps (by omega) S10; have F11 := F10.kq Q11 (by omega) hn; have M11 := own_kq M10 Q11 R10 (by decide); have A11 := own_kq A10 Q11 R10 (by decide); obtain ⟨p11_0, p11_1, p11_2, p11_3, p11_4, p11_5, p11_6, p11_7, p11_8, p11_9, p11_10, p11_11⟩ := cells12 T11; obtain ⟨q11_0, q11_1, q11_2, q11_3, q11_4, q11_5, q11_6, q11_7, q11_8, q11_9, q11_10⟩ := cells11 R11)
    | (refine wpList_store_kq rfl _ _ _ rfl (w.heap.size + 1) 0 (.agg #[.int .i64 K, .int .i64 fm, .string ix, .int .i64 sp, .slice (some ⟨g5, 0, none⟩) (km + 1) cap5, .slice (some ⟨g6, 0, none⟩) (ka + 1) cap6, .string tb, .int .i64 (pc + 1), .bool false, .int .i64 z2, .int .i64 ee]) rfl rfl _ _ #[.int .i64 K, .int .i64 fm, .string ix, .int .i64 sp, .slice (some ⟨g5, 0, none⟩) (km + 1) cap5, .slice (some ⟨g6, 0, none⟩) (ka + 1) cap6, .string tb, .int .i64 (pc + 1), .bool false, .int .i64 z2, .int .i64 ee] S11 (by kernel_rfl) rfl rfl rfl ?_; intro Wz hWz Qz; have Fz := F11.kq Qz (by omega) hn; have Mz := own_kq M11 Qz S11 (by decide); have Az := own_kq A11 Qz S11 (by decide))
  refine bodyPost_ret (results_cell_row rfl _ _ (w.heap.size + 1) _ _ _ _ rfl hWz Tryz.underlying76 rfl (by kernel_rfl)) rfl ?_
  exact ⟨_, _, _, _, _, _, rfl, Fz, Mz, Az⟩
end Go.Proofs.YtnfplepaejjmfaaGreatDoor

-- arc: the document's step, in plain words.
namespace Go.Proofs.YtnfplepaejjmfaaGreatDoor
open Go.ChangeShapes Go.WideShapes Go.ChangeAt Go.RowKit Go.Shelf
set_option linter.unusedVariables false
set_option maxRecDepth 100000

/-- the document's walk -/
def wrow (s : Wk) (p : Ar) (e : Int) (vm va : Value) : Array Value := #[.int .i64 p.kind, .int .i64 p.form, .string p.index, .int .i64 p.stamp, vm, va, .string s.tab, .int .i64 (s.cnt : Int), .bool s.idx, .int .i64 (s.pos : Int), .int .i64 e]
def sortOk (x : Fl × Int) : Prop := x.2 = 0 → 1 ≤ x.1.sort ∧ x.1.sort ≤ 8
theorem readL_sort (l : List UInt8) (h : (readL l).2 = 0) : 1 ≤ (readL l).1.sort ∧ (readL l).1.sort ≤ 8 := by
  have H : sortOk (readL l) := by
    unfold readL readRest
    repeat' split
    all_goals
      intro q
      first
        | (constructor <;> (simp; done))
        | (simp at q)
  exact H h
theorem nameW_head (t : ByteArray) (x : Pt) : (nameW t x).h.date = x.h.date ∧ (nameW t x).h.uid = x.h.uid ∧ (nameW t x).h.gid = x.h.gid ∧ (nameW t x).h.mode = x.h.mode := by
  unfold nameW; repeat' split
  all_goals exact ⟨rfl, rfl, rfl, rfl⟩
theorem nameW_none (t : ByteArray) (x : Pt) (h : ¬ ordS x.f.sort) : nameW t x = x := by
  unfold ordS ixS at h
  unfold nameW
  rw [if_neg (by omega), if_neg (by omega), if_neg (by omega)]
theorem rpRow_data (b : ByteArray) (x : Pt) : rpRow (dataW b x) = #[.int .i64 x.h.date, .int .i64 x.h.uid, .int .i64 x.h.gid, .int .i64 x.h.mode, .string x.h.name, .int .i64 x.h.size, .int .i64 x.f.sort, .int .i64 x.f.num, .string x.f.name, .string (dataW b x).data, .int .i64 (dataW b x).fin, .int .i64 (dataW b x).e] := by
  obtain ⟨_, _, h3, h4, _⟩ := dataW_same b x
  unfold rpRow
  rw [h3, h4]
theorem mbV_name (t : ByteArray) (x : Pt) : mbV (mbOf (nameW t x)) = .agg #[.int .i64 x.h.date, .int .i64 x.h.uid, .int .i64 x.h.gid, .int .i64 x.h.mode, .string (nameW t x).name, .int .i64 (nameW t x).h.size, .string (nameW t x).data] := by
  obtain ⟨h1, h2, h3, h4⟩ := nameW_head t x
  unfold mbV mbOf
  dsimp only
  rw [h1, h2, h3, h4]
theorem mbCells_name (t : ByteArray) (x : Pt) : mbCells (mbOf (nameW t x)) = [.int .i64 x.h.date, .int .i64 x.h.uid, .int .i64 x.h.gid, .int .i64 x.h.mode, .string (nameW t x).name, .int .i64 (nameW t x).h.size, .string (nameW t x).data] := by
  obtain ⟨h1, h2, h3, h4⟩ := nameW_head t x
  unfold mbCells mbOf
  dsimp only
  rw [h1, h2, h3, h4]
theorem namedW_ok (b : ByteArray) (s : Wk) (h : (namedW b s).e = 0) : (headW b s.pos).e = 0 ∧ namedW b s = { headW b s.pos with kind := kindW s (headW b s.pos).f.sort } := by
  unfold namedW at h ⊢
  by_cases q1 : ¬ (headW b s.pos).e = 0
  · rw [if_pos q1] at h; exact absurd h q1
  rw [if_neg q1] at h ⊢
  by_cases q2 : ¬ goesW (kindW s (headW b s.pos).f.sort) (headW b s.pos).f.sort
  · rw [if_pos q2] at h; simp at h
  rw [if_neg q2] at h ⊢
  by_cases q3 : ¬ placedW s (headW b s.pos).f.sort
  · rw [if_pos q3] at h; simp at h
  rw [if_neg q3]
  exact ⟨Classical.not_not.1 q1, rfl⟩
/-- the archive's rows -/
structure Rows2 (n₀ : Nat) (W : World) (p : Ar) (vm va : Value) : Prop where
  mem : W.ownsRow n₀ 54 7 vm p.mem.length (mbsV p.mem)
  ats : W.ownsRow n₀ 3 1 va p.ats.length (atsV p.ats)
theorem rstep_c (n₀ : Nat) (b : ByteArray) (s : Wk) (p : Ar) (ao bo : Option Addr) (ln cp lb cb : Nat) (w : World) (hn : n₀ ≤ w.heap.size) (hk : p.kind = s.kind) (hR : Rows2 n₀ w p (.slice ao ln cp) (.slice bo lb cb))
    (hw : WkOk b s) (hb : b.size < 4294967281) (hl1 : p.mem.length < 4294967296) (hl2 : p.ats.length < 4294967296) :
    Calls Tryz.prog 50 #[.string b, .agg (wrow s p 0 (.slice ao ln cp) (.slice bo lb cb))] w fun r w' => FrS n₀ w w' ∧
      ((¬ (lookW b s).e = 0 ∧ r = .returned (.agg (wrow s p (lookW b s).e (.slice ao ln cp) (.slice bo lb cb))) ∧ Rows2 n₀ w' p (.slice ao ln cp) (.slice bo lb cb)) ∨
       ((lookW b s).e = 0 ∧ ∃ am lm cm aa l1 ca, r = .returned (.agg (wrow (passW s (lookW b s)) (addA p (lookW b s)) 0 (.slice am lm cm) (.slice aa l1 ca))) ∧ Rows2 n₀ w' (addA p (lookW b s)) (.slice am lm cm) (.slice aa l1 ca))) := by
  have hm : b.size ≤ maxLen := by unfold maxLen; omega
  obtain ⟨hM, hA⟩ := hR
  have HN0 := fun wx => rnamed_c b s p.form p.stamp 0 p.index ao bo ln cp lb cb wx hm
  rw [← hk] at HN0
  have hlk := lookW_named b s
  have hfin := lookW_fin b s
  unfold wrow
  by_cases q1 : ¬ (namedW b s).e = 0
  · rw [if_pos q1] at hlk
    rw [hlk]
    have H := step_1 n₀ b p.kind p.form p.stamp s.cnt s.pos 0 p.index s.tab s.idx ao bo ln cp lb cb (mbsV p.mem) p.mem.length (atsV p.ats) p.ats.length (namedW b s).h.date (namedW b s).h.uid (namedW b s).h.gid (namedW b s).h.mode (namedW b s).h.size (namedW b s).f.sort (namedW b s).f.num (namedW b s).fin (namedW b s).e _ (namedW b s).h.name (namedW b s).f.name (namedW b s).data w hn hM hA HN0 q1
    refine H.mono ?_
    rintro r w' ⟨h1, h2, h3, h4⟩
    exact ⟨h2, .inl ⟨q1, h1, h3, h4⟩⟩
  · rw [if_neg q1] at hlk
    have q1' := Classical.not_not.1 q1
    obtain ⟨hx, hN⟩ := namedW_ok b s q1'
    obtain ⟨k1, k2, k3, k4, k5, k6, k7⟩ := headW_ok b s.pos hx
    have hsz := head_size b s.pos hx
    have hpos : (namedW b s).pos = s.pos := by rw [hN]; exact headW_pos b s.pos
    have hkd : (namedW b s).kind = kindW s (headW b s.pos).f.sort := by rw [hN]
    have hN0 : (namedW b s).h.size = (headW b s.pos).h.size := by rw [hN]
    have hNf : (namedW b s).f = (headW b s.pos).f := by rw [hN]
    have hNd : (namedW b s).data = (headW b s.pos).data := by rw [hN]
    have hso := readL_sort _ k7
    rw [← k6, ← hNf] at hso
    rw [if_pos hx, ← hkd] at HN0
    have HF0 := fun wx => filled_c b (namedW b s) q1' wx hm (by rw [hpos]; exact k1) (by rw [hpos]; exact k2) (by rw [hN0]; exact hsz.1) (by rw [hN0]; omega)
    rw [hpos, rpRow_data] at HF0
    have hdd : (dataW b (namedW b s)).data.size ≤ b.size := dataW_data b _ (by rw [hNd]; exact headW_data b s.pos)
    obtain ⟨d1, d2, d3, d4, d5⟩ := dataW_same b (namedW b s)
    by_cases q2 : ¬ (dataW b (namedW b s)).e = 0
    · rw [if_pos q2] at hlk
      rw [hlk]
      have H := step_2 n₀ b p.kind p.form p.stamp s.cnt s.pos 0 p.index s.tab s.idx ao bo ln cp lb cb (mbsV p.mem) p.mem.length (atsV p.ats) p.ats.length (namedW b s).h.date (namedW b s).h.uid (namedW b s).h.gid (namedW b s).h.mode (namedW b s).h.size (namedW b s).f.sort (namedW b s).f.num (namedW b s).fin 0 (namedW b s).kind (namedW b s).h.name (namedW b s).f.name (namedW b s).data (dataW b (namedW b s)).data (dataW b (namedW b s)).fin (dataW b (namedW b s)).e w hn hM hA (by unfold rpRow at HN0; rw [q1'] at HN0; exact HN0) (by unfold rpRow at HF0; rw [q1'] at HF0; exact HF0) q2
      refine H.mono ?_
      rintro r w' ⟨h1, h2, h3, h4⟩
      exact ⟨h2, .inl ⟨q2, h1, h3, h4⟩⟩
    · rw [if_neg q2] at hlk
      have q2' := Classical.not_not.1 q2
      unfold rpRow at HN0 HF0
      rw [q1'] at HN0 HF0
      rw [q2'] at HF0
      have HI0 := fun wx => rix_c (namedW b s).f.sort wx
      have hcn : ((s.cnt : Nat) : Int) < 4611686018427387904 := by have := hw.cnt; omega
      by_cases hix : ixS (namedW b s).f.sort
      · have hno : ¬ ordS (dataW b (namedW b s)).f.sort := by rw [d3]; exact fun h => h.1 hix
        rw [nameW_none _ _ hno] at hlk
        have he0 : (lookW b s).e = 0 := by rw [hlk]; exact q2'
        obtain ⟨f1, f2, f3⟩ := hfin he0
        rw [hlk] at f1
        rw [decide_eq_true hix] at HI0
        have H := step_3 n₀ b p.kind p.form p.stamp s.cnt s.pos 0 p.index s.tab s.idx ao bo ln cp lb cb (mbsV p.mem) p.mem.length (atsV p.ats) p.ats.length (namedW b s).h.date (namedW b s).h.uid (namedW b s).h.gid (namedW b s).h.mode (namedW b s).h.size (namedW b s).f.sort (namedW b s).f.num (namedW b s).fin 0 (namedW b s).kind (namedW b s).h.name (namedW b s).f.name (namedW b s).data (dataW b (namedW b s)).data (dataW b (namedW b s)).fin 0 (formS (namedW b s).f.sort) w hn hM hA HN0 HF0 HI0 (fun wx => rform_c (namedW b s).f.sort wx hix) (Int.natCast_nonneg _) hcn
        refine H.mono ?_
        rintro r w' ⟨h1, h2, h3, h4⟩
        refine ⟨h2, .inr ⟨he0, ao, ln, cp, bo, lb, cb, ?_, ?_⟩⟩
        · rw [h1, hlk]
          unfold passW addA
          rw [if_neg hno, d3, if_pos hix, if_neg (show ¬ (namedW b s).f.sort = 3 by unfold ixS at hix; omega)]
          dsimp only
          rw [d2, d4, decide_eq_true hix, Int.toNat_of_nonneg (by omega)]
          rfl
        · rw [hlk]; unfold addA
          rw [if_neg hno, d3, if_pos hix]
          exact ⟨h3, h4⟩
      · rw [decide_eq_false hix] at HI0
        by_cases h3s : (namedW b s).f.sort = 3
        · have hno : ¬ ordS (dataW b (namedW b s)).f.sort := by rw [d3]; exact fun h => h.2 h3s
          rw [nameW_none _ _ hno] at hlk
          have he0 : (lookW b s).e = 0 := by rw [hlk]; exact q2'
          obtain ⟨f1, f2, f3⟩ := hfin he0
          rw [hlk] at f1
          have H := step_4 n₀ b p.kind p.form p.stamp s.cnt s.pos 0 p.index s.tab s.idx ao bo ln cp lb cb (mbsV p.mem) p.mem.length (atsV p.ats) p.ats.length (namedW b s).h.date (namedW b s).h.uid (namedW b s).h.gid (namedW b s).h.mode (namedW b s).h.size (namedW b s).f.sort (namedW b s).f.num (namedW b s).fin 0 (namedW b s).kind (namedW b s).h.name (namedW b s).f.name (namedW b s).data (dataW b (namedW b s)).data (dataW b (namedW b s)).fin 0 w hn hM hA HN0 HF0 HI0 (Int.natCast_nonneg _) hcn h3s
          refine H.mono ?_
          rintro r w' ⟨h1, h2, h3, h4⟩
          refine ⟨h2, .inr ⟨he0, ao, ln, cp, bo, lb, cb, ?_, ?_⟩⟩
          · rw [h1, hlk]
            unfold passW addA
            rw [if_neg hno, d3, if_neg hix, if_pos h3s]
            dsimp only
            rw [d2, decide_eq_false hix, Int.toNat_of_nonneg (by omega)]
            rfl
          · rw [hlk]; unfold addA
            rw [if_neg hno, d3, if_neg hix]
            exact ⟨h3, h4⟩
        · have ho : ordS (namedW b s).f.sort := ⟨hix, h3s⟩
          have hs4 : (dataW b (namedW b s)).f.sort = 4 ∨ (dataW b (namedW b s)).f.sort = 5 ∨ (dataW b (namedW b s)).f.sort = 6 ∨ (dataW b (namedW b s)).f.sort = 7 := by
            rw [d3]; unfold ixS at hix; omega
          have ht := hw.tab
          have HM0 := fun wx => rmember_c s.tab (dataW b (namedW b s)) q2' (namedW b s).kind wx hs4 (by omega) (by omega)
          rw [mbV_name, rpRow_data, q2', d4] at HM0
          by_cases q3 : ¬ (nameW s.tab (dataW b (namedW b s))).e = 0
          · have H := step_5 n₀ b p.kind p.form p.stamp s.cnt s.pos 0 p.index s.tab s.idx ao bo ln cp lb cb (mbsV p.mem) p.mem.length (atsV p.ats) p.ats.length (namedW b s).h.date (namedW b s).h.uid (namedW b s).h.gid (namedW b s).h.mode (namedW b s).h.size (namedW b s).f.sort (namedW b s).f.num (namedW b s).fin 0 (namedW b s).kind (namedW b s).h.name (namedW b s).f.name (namedW b s).data (dataW b (namedW b s)).data (dataW b (namedW b s)).fin 0 (nameW s.tab (dataW b (namedW b s))).name (nameW s.tab (dataW b (namedW b s))).data (nameW s.tab (dataW b (namedW b s))).h.size (nameW s.tab (dataW b (namedW b s))).e w hn hM hA HN0 HF0 HI0 HM0 h3s q3
            refine H.mono ?_
            rintro r w' ⟨h1, h2, h3, h4⟩
            rw [hlk]
            exact ⟨h2, .inl ⟨q3, h1, h3, h4⟩⟩
          · have q3' := Classical.not_not.1 q3
            have he0 : (lookW b s).e = 0 := by rw [hlk]; exact q3'
            obtain ⟨f1, f2, f3⟩ := hfin he0
            rw [q3'] at HM0
            have H := step_6 n₀ b p.kind p.form p.stamp s.cnt s.pos 0 p.index s.tab s.idx ao bo ln cp lb cb (mbsV p.mem) p.mem.length (atsV p.ats) p.ats.length (namedW b s).h.date (namedW b s).h.uid (namedW b s).h.gid (namedW b s).h.mode (namedW b s).h.size (namedW b s).f.sort (namedW b s).f.num (namedW b s).fin 0 (namedW b s).kind (namedW b s).h.name (namedW b s).f.name (namedW b s).data (dataW b (namedW b s)).data (dataW b (namedW b s)).fin 0 (nameW s.tab (dataW b (namedW b s))).name (nameW s.tab (dataW b (namedW b s))).data (nameW s.tab (dataW b (namedW b s))).h.size 0 w hn hM hA HN0 HF0 HI0 HM0 (Int.natCast_nonneg _) hcn h3s hl1 hl2
            refine H.mono ?_
            rintro r w' ⟨am, lm, cm, aa, l1, ca, h1, h2, h3, h4⟩
            obtain ⟨n1, n2, n3, n4⟩ := nameW_same s.tab (dataW b (namedW b s))
            have ho' : ordS (nameW s.tab (dataW b (namedW b s))).f.sort := by rw [n4, d3]; exact ho
            rw [hlk, n2] at f1
            refine ⟨h2, .inr ⟨he0, am, lm, cm, aa, l1, ca, ?_, ?_⟩⟩
            · rw [h1, hlk]
              unfold passW addA
              rw [if_pos ho', n4, d3, if_neg h3s]
              dsimp only
              rw [n2, n3, d2, decide_eq_false hix, Int.toNat_of_nonneg (by omega)]
              rfl
            · rw [hlk]; unfold addA
              rw [if_pos ho']
              refine ⟨?_, ?_⟩
              · show w'.ownsRow n₀ 54 7 _ (p.mem ++ [_]).length (mbsV (p.mem ++ [_]))
                rw [mbsV_snoc, mbCells_name, d4, List.length_append]; exact h3
              · show w'.ownsRow n₀ 3 1 _ (p.ats ++ [_]).length (atsV (p.ats ++ [_]))
                rw [atsV_snoc, List.length_append, n1, d1, hpos]; exact h4
end Go.Proofs.YtnfplepaejjmfaaGreatDoor
