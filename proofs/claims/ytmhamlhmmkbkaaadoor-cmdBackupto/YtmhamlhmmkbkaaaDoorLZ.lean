
-- ranlibLine, arLine, Line.
import Derived.Test.YtmhamlhmmkbkaaaDoorLF
import Derived.Test.YtmhamlhmmkbkaaaDoorL1
import Derived.Great.BuildSlice
import Derived.Deep.RegionHeld3
import Derived.Deep.CutRange
namespace Go.Proofs.YtmhamlhmmkbkaaaDoor
open Go.ChangeShapes Go.WideShapes Go.ChangeAt Go.RowKit
set_option linter.unusedVariables false
set_option maxRecDepth 100000
set_option linter.unusedSimpArgs false
theorem ownT_mk (l : List ByteArray) (W : World) (B g : Nat) (hB : B ≤ g) (hg : W.heap[g]? = some (.cells (l.flatMap txL).toArray 9 (0, 0))) (hl : l.length ≤ 1000) : OwnT B W (.slice (some ⟨g, 0, none⟩) l.length l.length) l :=
  ownG_of txL 1 txL_len hg hB (Nat.le_refl _) (by unfold maxLen; omega) (by rw [List.size_toArray, lenT, Nat.mul_one]) (by rw [List.toList_toArray, List.take_of_length_le (by rw [lenT, Nat.mul_one]; exact Nat.le_refl _)]) rfl
/-- one more text behind a row, as a step of a region -/
theorem stepT_one {ops : Array Oper} {o : Oper} {a : Act} {W : World} {K : Act → World → Prop} {Q : Exit → Act → World → Prop} {E : Prop} (hgd : o.guard = none) (x y : Operand) (ho : o.op = .call { callee := .builtin .append, args := #[x, y], argTypes := #[22, 22] })
    (A : World) (B : Nat) (v : Value) (L : List ByteArray) (s : ByteArray) (hx : a.eval x = v) (hy : a.eval y = .slice (some ⟨W.heap.size, 0, none⟩) 1 1) (hO : OwnT B W v L) (hl : L.length ≤ 268435456) (hA : B ≤ A.heap.size) (hB : Below B A W)
    (h : ∀ v' w', OwnT B w' v' (L ++ [s]) → Below B A w' → K (a.put o.dst v') w') : if Region.wanted o (yielded ops a.tmps) = true then Oper.wp Tryd.prog o a (W.alloc (.cells #[.string s] 9)) K Q else E := by
  obtain ⟨i0, hi, hz0, hz1, hz2⟩ := info_parts infoTx15
  have hBW : B ≤ W.heap.size := Nat.le_trans hA hB.size
  have hO2 : (W.alloc (.cells #[.string s] 9)).ownsRow B 9 1 v L.length (L.flatMap txL) := own_upK hO _
  rw [if_pos (by simp [Region.wanted, hgd])]
  obtain ⟨v', w', hrun, o1, g1, _⟩ := run_append_own (P := Tryd.prog) (W.alloc (.cells #[.string s] 9)) B 22 o.type 9 i0 (.string ⟨#[]⟩) 1 16 Tryd.underlying22 hi hz0 hz1 hz2 rfl (by decide) v L.length (L.flatMap txL) hO2 ⟨W.heap.size, 0, none⟩ 1 1 [.string s] rfl (new_rowK W #[.string s] 9 [.string s] rfl) (by intro u hu; simp at hu; subst hu; rfl) (by unfold maxLen; omega) (by omega) (by rw [World.size_alloc]; omega)
  unfold Oper.wp
  simp [execOp, ho, resolve, invoke, builtin, hx, hy, hrun, Result.andThen]
  exact h v' w' (pushT (M := [s]) rfl o1) (below_grow (hB.alloc hBW _) g1 hO2 hA)
set_option maxHeartbeats 4000000 in
theorem ranLine_t (prog on kind wh : Int) (vb up qu dat bare thin : Bool) (anc arc : ByteArray) (an : Option Addr) (nl nc : Nat) (N : List ByteArray) (w : World) (hR : RowT w (.slice an nl nc) N) (hl : N.length ≤ 16777216) :
    Calls Tryd.prog 17 #[.agg #[.int .i64 prog, .int .u8 on, .bool vb, .bool up, .bool qu, .bool true, .bool dat, .bool bare, .bool thin, .int .i64 kind, .int .i64 wh, .string anc, .string arc, .slice an nl nc]] w fun e w' => ∃ u, e = .returned u ∧ OwnT w.heap.size w' u (wRan :: ([wD] ++ arc :: N)) ∧ Below w.heap.size w w' := by
  obtain ⟨w1, hw1⟩ : ∃ w1, w.alloc (.cells #[.int .i64 prog, .int .u8 on, .bool vb, .bool up, .bool qu, .bool true, .bool dat, .bool bare, .bool thin, .int .i64 kind, .int .i64 wh, .string anc, .string arc, .slice an nl nc] 27) = w1 := ⟨_, rfl⟩
  have hP := heap_alloc_new w (.cells #[.int .i64 prog, .int .u8 on, .bool vb, .bool up, .bool qu, .bool true, .bool dat, .bool bare, .bool thin, .int .i64 kind, .int .i64 wh, .string anc, .string arc, .slice an nl nc] 27)
  have hB : Below w.heap.size w w1 := by rw [← hw1]; exact bupK (Below.refl _ _) _
  rw [hw1] at hP
  have HP := hidK hP
  have HV := hidK hR
  have hsz : w.heap.size ≤ w1.heap.size := hB.size
  obtain ⟨W2, hW2⟩ : ∃ W2, w1.alloc (.cells #[.string ⟨#[114, 97, 110, 108, 105, 98]⟩] 9) = W2 := ⟨_, rfl⟩
  have o2 : OwnT w1.heap.size W2 (.slice (some ⟨w1.heap.size, 0, none⟩) 1 1) [wRan] := by rw [← hW2]; exact ownT_mk [wRan] _ _ _ (Nat.le_refl _) (heap_alloc_new w1 _) (by simp)
  have b2 : Below w1.heap.size w1 W2 := by rw [← hW2]; exact bupK (Below.refl _ _) _
  have hx5 := cell_rowK hP 5 _ rfl
  clear hP hR
  go_enter Tryd.func17, Tryd.ntmps17
  go_upto_region 1 with fail
  try rw [hw1]
  clear hw1
  go_upto_region 2 with fail
  try rw [hW2]
  clear hW2
  have y5 := cell_rowK (hkeepK b2 HP.out) 5 _ rfl
  go_upto_region 4 with (refine wpT_one rfl (.tmp 7) (.tmp 8) rfl w1 w1.heap.size _ [wRan] ⟨#[45, 68]⟩ rfl rfl o2 (by simp) (Nat.le_refl _) b2 ?_; intro v3 w3 o3 b3)
  have y11 := cell_rowK (hkeepK b3 HP.out) 12 _ rfl
  go_upto_region 5 with (refine wpT_one rfl (.tmp 10) (.tmp 13) rfl w1 w1.heap.size _ ([wRan] ++ [wD]) arc rfl rfl o3 (by simp) (Nat.le_refl _) b3 ?_; intro v4 w4 o4 b4)
  have y12 := cell_rowK (hkeepK b4 HP.out) 13 _ rfl
  have r4 := (HV.out.on hB).on b4
  go_wp2_with (refine wpT_all rfl (.tmp 15) (.tmp 17) rfl w1 w1.heap.size _ (.slice an nl nc) (([wRan] ++ [wD]) ++ [arc]) N rfl rfl o4 r4 (by simp) (by omega) (Nat.le_refl _) b4 ?_; intro v5 w5 o5 b5)
  go_ret
  refine ⟨_, rfl, ?_, bel3K hB b5⟩
  have := OwnT.le o5 hsz
  simpa using this
set_option maxHeartbeats 4000000 in
theorem ranLine_f (prog on kind wh : Int) (vb up qu dat bare thin : Bool) (anc arc : ByteArray) (an : Option Addr) (nl nc : Nat) (N : List ByteArray) (w : World) (hR : RowT w (.slice an nl nc) N) (hl : N.length ≤ 16777216) :
    Calls Tryd.prog 17 #[.agg #[.int .i64 prog, .int .u8 on, .bool vb, .bool up, .bool qu, .bool false, .bool dat, .bool bare, .bool thin, .int .i64 kind, .int .i64 wh, .string anc, .string arc, .slice an nl nc]] w fun e w' => ∃ u, e = .returned u ∧ OwnT w.heap.size w' u (wRan :: (arc :: N)) ∧ Below w.heap.size w w' := by
  obtain ⟨w1, hw1⟩ : ∃ w1, w.alloc (.cells #[.int .i64 prog, .int .u8 on, .bool vb, .bool up, .bool qu, .bool false, .bool dat, .bool bare, .bool thin, .int .i64 kind, .int .i64 wh, .string anc, .string arc, .slice an nl nc] 27) = w1 := ⟨_, rfl⟩
  have hP := heap_alloc_new w (.cells #[.int .i64 prog, .int .u8 on, .bool vb, .bool up, .bool qu, .bool false, .bool dat, .bool bare, .bool thin, .int .i64 kind, .int .i64 wh, .string anc, .string arc, .slice an nl nc] 27)
  have hB : Below w.heap.size w w1 := by rw [← hw1]; exact bupK (Below.refl _ _) _
  rw [hw1] at hP
  have HP := hidK hP
  have HV := hidK hR
  have hsz : w.heap.size ≤ w1.heap.size := hB.size
  obtain ⟨W2, hW2⟩ : ∃ W2, w1.alloc (.cells #[.string ⟨#[114, 97, 110, 108, 105, 98]⟩] 9) = W2 := ⟨_, rfl⟩
  have o2 : OwnT w1.heap.size W2 (.slice (some ⟨w1.heap.size, 0, none⟩) 1 1) [wRan] := by rw [← hW2]; exact ownT_mk [wRan] _ _ _ (Nat.le_refl _) (heap_alloc_new w1 _) (by simp)
  have b2 : Below w1.heap.size w1 W2 := by rw [← hW2]; exact bupK (Below.refl _ _) _
  have hx5 := cell_rowK hP 5 _ rfl
  clear hP hR
  go_enter Tryd.func17, Tryd.ntmps17
  go_upto_region 1 with fail
  try rw [hw1]
  clear hw1
  go_upto_region 2 with fail
  try rw [hW2]
  clear hW2
  have y5 := cell_rowK (hkeepK b2 HP.out) 5 _ rfl
  go_upto_region 4 with fail
  have y11 := cell_rowK (hkeepK b2 HP.out) 12 _ rfl
  go_upto_region 5 with (refine wpT_one rfl (.tmp 10) (.tmp 13) rfl w1 w1.heap.size _ [wRan] arc rfl rfl o2 (by simp) (Nat.le_refl _) b2 ?_; intro v4 w4 o4 b4)
  have y12 := cell_rowK (hkeepK b4 HP.out) 13 _ rfl
  have r4 := (HV.out.on hB).on b4
  go_wp2_with (refine wpT_all rfl (.tmp 15) (.tmp 17) rfl w1 w1.heap.size _ (.slice an nl nc) ([wRan] ++ [arc]) N rfl rfl o4 r4 (by simp) (by omega) (Nat.le_refl _) b4 ?_; intro v5 w5 o5 b5)
  go_ret
  refine ⟨_, rfl, ?_, bel3K hB b5⟩
  have := OwnT.le o5 hsz
  simpa using this
set_option maxHeartbeats 8000000 in
theorem arLine_0p (prog on wh : Int) (vb up qu det dat bare thin : Bool) (anc arc : ByteArray) (an : Option Addr) (nl nc : Nat) (N : List ByteArray) (w : World) (hR : RowT w (.slice an nl nc) N) (hl : N.length ≤ 16777216) (ops q F key : ByteArray)
    (HPL : Hid (∀ W, Calls Tryd.prog 30 #[.int .i64 wh] W fun e w' => e = .returned (.tuple #[.string q, .bool true]) ∧ w' = W))
    (HFL : Hid (∀ W, Calls Tryd.prog 31 #[.agg #[.int .i64 prog, .int .u8 on, .bool vb, .bool up, .bool qu, .bool det, .bool dat, .bool bare, .bool thin, .int .i64 0, .int .i64 wh, .string anc, .string arc, .slice an nl nc]] W fun e w' => e = .returned (.string F) ∧ Below W.heap.size W w'))
    (hcv : IntKind.i32.wrap on = on) (hcs : Utf8.encode on = ops) (hk : ops ++ q ++ F = key) (hz1 : ¬ 9223372036854775807 < ops.size + q.size) (hz3 : ¬ 9223372036854775807 < ops.size + q.size + F.size) (n1 : (q.toList == []) = false) (n2 : q.toList.isEmpty = false) :
    Calls Tryd.prog 18 #[.agg #[.int .i64 prog, .int .u8 on, .bool vb, .bool up, .bool qu, .bool det, .bool dat, .bool bare, .bool thin, .int .i64 0, .int .i64 wh, .string anc, .string arc, .slice an nl nc]] w fun e w' => ∃ u, e = .returned u ∧ OwnT w.heap.size w' u ((([wAr] ++ [key]) ++ [anc]) ++ [arc] ++ N) ∧ Below w.heap.size w w' := by
  obtain ⟨w1, hw1⟩ : ∃ w1, w.alloc (.cells #[.int .i64 prog, .int .u8 on, .bool vb, .bool up, .bool qu, .bool det, .bool dat, .bool bare, .bool thin, .int .i64 0, .int .i64 wh, .string anc, .string arc, .slice an nl nc] 27) = w1 := ⟨_, rfl⟩
  have hP := heap_alloc_new w (.cells #[.int .i64 prog, .int .u8 on, .bool vb, .bool up, .bool qu, .bool det, .bool dat, .bool bare, .bool thin, .int .i64 0, .int .i64 wh, .string anc, .string arc, .slice an nl nc] 27)
  have hB : Below w.heap.size w w1 := by rw [← hw1]; exact bupK (Below.refl _ _) _
  rw [hw1] at hP
  have HP := hidK hP
  have HV := hidK hR
  have HK := hidK hk
  have hsz : w.heap.size ≤ w1.heap.size := hB.size
  obtain ⟨W2, hW2⟩ : ∃ W2, w1.alloc (.cells #[.string ⟨#[97, 114]⟩] 9) = W2 := ⟨_, rfl⟩
  have o2 : OwnT w1.heap.size W2 (.slice (some ⟨w1.heap.size, 0, none⟩) 1 1) [wAr] := by rw [← hW2]; exact ownT_mk [wAr] _ _ _ (Nat.le_refl _) (heap_alloc_new w1 _) (by simp)
  have b2 : Below w1.heap.size w1 W2 := by rw [← hW2]; exact bupK (Below.refl _ _) _
  have hx10 := cell_rowK hP 10 _ rfl
  clear hP hR hk
  go_enter Tryd.func18, Tryd.ntmps18
  go_upto_region 1 with fail
  try rw [hw1]
  clear hw1
  go_upto_region 2 with (go_at_call 30; refine (HPL.out _).mono ?_; rintro e w9 ⟨rfl, hw9⟩; rw [hw9]; clear hw9)
  go_upto_region 3 with fail
  try rw [hW2]
  clear hW2 HPL hx10
  have y9 := cell_rowK (hkeepK b2 HP.out) 9 _ rfl
  go_upto_region 5 with fail
  clear y9
  have KB : Hid (∀ W', Below w1.heap.size w1 W' → (fun w' : World => w'.cell? ⟨w.heap.size, 0, none⟩ = some (.int .i64 prog) ∧ w'.cell? ⟨w.heap.size, 1, none⟩ = some (.int .u8 on) ∧ w'.cell? ⟨w.heap.size, 2, none⟩ = some (.bool vb) ∧ w'.cell? ⟨w.heap.size, 3, none⟩ = some (.bool up) ∧ w'.cell? ⟨w.heap.size, 4, none⟩ = some (.bool qu) ∧ w'.cell? ⟨w.heap.size, 5, none⟩ = some (.bool det) ∧ w'.cell? ⟨w.heap.size, 6, none⟩ = some (.bool dat) ∧ w'.cell? ⟨w.heap.size, 7, none⟩ = some (.bool bare) ∧ w'.cell? ⟨w.heap.size, 8, none⟩ = some (.bool thin) ∧ w'.cell? ⟨w.heap.size, 9, none⟩ = some (.int .i64 0) ∧ w'.cell? ⟨w.heap.size, 10, none⟩ = some (.int .i64 wh) ∧ w'.cell? ⟨w.heap.size, 11, none⟩ = some (.string anc) ∧ w'.cell? ⟨w.heap.size, 12, none⟩ = some (.string arc) ∧ w'.cell? ⟨w.heap.size, 13, none⟩ = some (.slice an nl nc) ∧ Below w1.heap.size w1 w') W') := fun W' hb => ⟨cell_rowK (hkeepK hb HP.out) 0 _ rfl, cell_rowK (hkeepK hb HP.out) 1 _ rfl, cell_rowK (hkeepK hb HP.out) 2 _ rfl, cell_rowK (hkeepK hb HP.out) 3 _ rfl, cell_rowK (hkeepK hb HP.out) 4 _ rfl, cell_rowK (hkeepK hb HP.out) 5 _ rfl, cell_rowK (hkeepK hb HP.out) 6 _ rfl, cell_rowK (hkeepK hb HP.out) 7 _ rfl, cell_rowK (hkeepK hb HP.out) 8 _ rfl, cell_rowK (hkeepK hb HP.out) 9 _ rfl, cell_rowK (hkeepK hb HP.out) 10 _ rfl, cell_rowK (hkeepK hb HP.out) 11 _ rfl, cell_rowK (hkeepK hb HP.out) 12 _ rfl, cell_rowK (hkeepK hb HP.out) 13 _ rfl, hb⟩
  have HO := hidK o2
  have HB3 := hidK b2
  clear o2 b2
  go_region_held3 (fun w' : World => w'.cell? ⟨w.heap.size, 0, none⟩ = some (.int .i64 prog) ∧ w'.cell? ⟨w.heap.size, 1, none⟩ = some (.int .u8 on) ∧ w'.cell? ⟨w.heap.size, 2, none⟩ = some (.bool vb) ∧ w'.cell? ⟨w.heap.size, 3, none⟩ = some (.bool up) ∧ w'.cell? ⟨w.heap.size, 4, none⟩ = some (.bool qu) ∧ w'.cell? ⟨w.heap.size, 5, none⟩ = some (.bool det) ∧ w'.cell? ⟨w.heap.size, 6, none⟩ = some (.bool dat) ∧ w'.cell? ⟨w.heap.size, 7, none⟩ = some (.bool bare) ∧ w'.cell? ⟨w.heap.size, 8, none⟩ = some (.bool thin) ∧ w'.cell? ⟨w.heap.size, 9, none⟩ = some (.int .i64 0) ∧ w'.cell? ⟨w.heap.size, 10, none⟩ = some (.int .i64 wh) ∧ w'.cell? ⟨w.heap.size, 11, none⟩ = some (.string anc) ∧ w'.cell? ⟨w.heap.size, 12, none⟩ = some (.string arc) ∧ w'.cell? ⟨w.heap.size, 13, none⟩ = some (.slice an nl nc) ∧ Below w1.heap.size w1 w') (first | exact KB.out _ b7 | exact KB.out _ (b6.alloc b6.size _) | exact KB.out _ b6 | exact KB.out _ HB3.out.drew) ((first
    | (go_at_call 31; refine (HFL.out _).mono ?_; rintro e w6 ⟨rfl, b5⟩; have b6 := HB3.out.drew.trans (b5.mono HB3.out.size))
    | (refine stepT_one rfl (.tmp 20) (.tmp 30) rfl w1 w1.heap.size (.slice (some ⟨w1.heap.size, 0, none⟩) 1 1) [wAr] (ops ++ q ++ F) rfl rfl (OwnT.on (show OwnT w1.heap.size W2.drew (.slice (some ⟨w1.heap.size, 0, none⟩) 1 1) [wAr] from HO.out) b5) (by simp) (Nat.le_refl _) b6 ?_; intro v7 w7 o7 b7)))
  rw [HK.out] at o7
  have y6 := cell_rowK (hkeepK b7 HP.out) 11 _ rfl
  go_upto_region 8 with (refine wpT_one rfl (.tmp 34) (.tmp 38) rfl w1 w1.heap.size _ ([wAr] ++ [key]) anc rfl rfl o7 (by simp) (Nat.le_refl _) b7 ?_; intro v8 w8 o8 b8)
  have y11 := cell_rowK (hkeepK b8 HP.out) 12 _ rfl
  go_upto_region 9 with (refine wpT_one rfl (.tmp 40) (.tmp 43) rfl w1 w1.heap.size _ (([wAr] ++ [key]) ++ [anc]) arc rfl rfl o8 (by simp) (Nat.le_refl _) b8 ?_; intro v10 w10 o10 b10)
  have y12 := cell_rowK (hkeepK b10 HP.out) 13 _ rfl
  have r10 := (HV.out.on hB).on b10
  go_wp2_with (refine wpT_all rfl (.tmp 45) (.tmp 47) rfl w1 w1.heap.size _ (.slice an nl nc) ((([wAr] ++ [key]) ++ [anc]) ++ [arc]) N rfl rfl o10 r10 (by simp) (by omega) (Nat.le_refl _) b10 ?_; intro v11 w11 o11 b11)
  go_ret
  exact ⟨_, rfl, OwnT.le o11 hsz, bel3K hB b11⟩
set_option maxHeartbeats 8000000 in
theorem arLine_0n (prog on wh : Int) (vb up qu det dat bare thin : Bool) (anc arc : ByteArray) (an : Option Addr) (nl nc : Nat) (N : List ByteArray) (w : World) (hR : RowT w (.slice an nl nc) N) (hl : N.length ≤ 16777216) (ops q F key : ByteArray)
    (HPL : Hid (∀ W, Calls Tryd.prog 30 #[.int .i64 wh] W fun e w' => e = .returned (.tuple #[.string ⟨#[]⟩, .bool true]) ∧ w' = W))
    (HFL : Hid (∀ W, Calls Tryd.prog 31 #[.agg #[.int .i64 prog, .int .u8 on, .bool vb, .bool up, .bool qu, .bool det, .bool dat, .bool bare, .bool thin, .int .i64 0, .int .i64 wh, .string anc, .string arc, .slice an nl nc]] W fun e w' => e = .returned (.string F) ∧ Below W.heap.size W w'))
    (hcv : IntKind.i32.wrap on = on) (hcs : Utf8.encode on = ops) (hk : ops ++ (⟨#[]⟩ : ByteArray) ++ F = key) (hz1 : ¬ 9223372036854775807 < ops.size) (hz3 : ¬ 9223372036854775807 < ops.size + F.size) :
    Calls Tryd.prog 18 #[.agg #[.int .i64 prog, .int .u8 on, .bool vb, .bool up, .bool qu, .bool det, .bool dat, .bool bare, .bool thin, .int .i64 0, .int .i64 wh, .string anc, .string arc, .slice an nl nc]] w fun e w' => ∃ u, e = .returned u ∧ OwnT w.heap.size w' u (([wAr] ++ [key]) ++ [arc] ++ N) ∧ Below w.heap.size w w' := by
  obtain ⟨w1, hw1⟩ : ∃ w1, w.alloc (.cells #[.int .i64 prog, .int .u8 on, .bool vb, .bool up, .bool qu, .bool det, .bool dat, .bool bare, .bool thin, .int .i64 0, .int .i64 wh, .string anc, .string arc, .slice an nl nc] 27) = w1 := ⟨_, rfl⟩
  have hP := heap_alloc_new w (.cells #[.int .i64 prog, .int .u8 on, .bool vb, .bool up, .bool qu, .bool det, .bool dat, .bool bare, .bool thin, .int .i64 0, .int .i64 wh, .string anc, .string arc, .slice an nl nc] 27)
  have hB : Below w.heap.size w w1 := by rw [← hw1]; exact bupK (Below.refl _ _) _
  rw [hw1] at hP
  have HP := hidK hP
  have HV := hidK hR
  have HK := hidK hk
  have hsz : w.heap.size ≤ w1.heap.size := hB.size
  obtain ⟨W2, hW2⟩ : ∃ W2, w1.alloc (.cells #[.string ⟨#[97, 114]⟩] 9) = W2 := ⟨_, rfl⟩
  have o2 : OwnT w1.heap.size W2 (.slice (some ⟨w1.heap.size, 0, none⟩) 1 1) [wAr] := by rw [← hW2]; exact ownT_mk [wAr] _ _ _ (Nat.le_refl _) (heap_alloc_new w1 _) (by simp)
  have b2 : Below w1.heap.size w1 W2 := by rw [← hW2]; exact bupK (Below.refl _ _) _
  have hx10 := cell_rowK hP 10 _ rfl
  clear hP hR hk
  go_enter Tryd.func18, Tryd.ntmps18
  go_upto_region 1 with fail
  try rw [hw1]
  clear hw1
  go_upto_region 2 with (go_at_call 30; refine (HPL.out _).mono ?_; rintro e w9 ⟨rfl, hw9⟩; rw [hw9]; clear hw9)
  go_upto_region 3 with fail
  try rw [hW2]
  clear hW2 HPL hx10
  have y9 := cell_rowK (hkeepK b2 HP.out) 9 _ rfl
  go_upto_region 5 with fail
  clear y9
  have KB : Hid (∀ W', Below w1.heap.size w1 W' → (fun w' : World => w'.cell? ⟨w.heap.size, 0, none⟩ = some (.int .i64 prog) ∧ w'.cell? ⟨w.heap.size, 1, none⟩ = some (.int .u8 on) ∧ w'.cell? ⟨w.heap.size, 2, none⟩ = some (.bool vb) ∧ w'.cell? ⟨w.heap.size, 3, none⟩ = some (.bool up) ∧ w'.cell? ⟨w.heap.size, 4, none⟩ = some (.bool qu) ∧ w'.cell? ⟨w.heap.size, 5, none⟩ = some (.bool det) ∧ w'.cell? ⟨w.heap.size, 6, none⟩ = some (.bool dat) ∧ w'.cell? ⟨w.heap.size, 7, none⟩ = some (.bool bare) ∧ w'.cell? ⟨w.heap.size, 8, none⟩ = some (.bool thin) ∧ w'.cell? ⟨w.heap.size, 9, none⟩ = some (.int .i64 0) ∧ w'.cell? ⟨w.heap.size, 10, none⟩ = some (.int .i64 wh) ∧ w'.cell? ⟨w.heap.size, 11, none⟩ = some (.string anc) ∧ w'.cell? ⟨w.heap.size, 12, none⟩ = some (.string arc) ∧ w'.cell? ⟨w.heap.size, 13, none⟩ = some (.slice an nl nc) ∧ Below w1.heap.size w1 w') W') := fun W' hb => ⟨cell_rowK (hkeepK hb HP.out) 0 _ rfl, cell_rowK (hkeepK hb HP.out) 1 _ rfl, cell_rowK (hkeepK hb HP.out) 2 _ rfl, cell_rowK (hkeepK hb HP.out) 3 _ rfl, cell_rowK (hkeepK hb HP.out) 4 _ rfl, cell_rowK (hkeepK hb HP.out) 5 _ rfl, cell_rowK (hkeepK hb HP.out) 6 _ rfl, cell_rowK (hkeepK hb HP.out) 7 _ rfl, cell_rowK (hkeepK hb HP.out) 8 _ rfl, cell_rowK (hkeepK hb HP.out) 9 _ rfl, cell_rowK (hkeepK hb HP.out) 10 _ rfl, cell_rowK (hkeepK hb HP.out) 11 _ rfl, cell_rowK (hkeepK hb HP.out) 12 _ rfl, cell_rowK (hkeepK hb HP.out) 13 _ rfl, hb⟩
  have HO := hidK o2
  have HB3 := hidK b2
  clear o2 b2
  go_region_held3 (fun w' : World => w'.cell? ⟨w.heap.size, 0, none⟩ = some (.int .i64 prog) ∧ w'.cell? ⟨w.heap.size, 1, none⟩ = some (.int .u8 on) ∧ w'.cell? ⟨w.heap.size, 2, none⟩ = some (.bool vb) ∧ w'.cell? ⟨w.heap.size, 3, none⟩ = some (.bool up) ∧ w'.cell? ⟨w.heap.size, 4, none⟩ = some (.bool qu) ∧ w'.cell? ⟨w.heap.size, 5, none⟩ = some (.bool det) ∧ w'.cell? ⟨w.heap.size, 6, none⟩ = some (.bool dat) ∧ w'.cell? ⟨w.heap.size, 7, none⟩ = some (.bool bare) ∧ w'.cell? ⟨w.heap.size, 8, none⟩ = some (.bool thin) ∧ w'.cell? ⟨w.heap.size, 9, none⟩ = some (.int .i64 0) ∧ w'.cell? ⟨w.heap.size, 10, none⟩ = some (.int .i64 wh) ∧ w'.cell? ⟨w.heap.size, 11, none⟩ = some (.string anc) ∧ w'.cell? ⟨w.heap.size, 12, none⟩ = some (.string arc) ∧ w'.cell? ⟨w.heap.size, 13, none⟩ = some (.slice an nl nc) ∧ Below w1.heap.size w1 w') (first | exact KB.out _ b7 | exact KB.out _ (b6.alloc b6.size _) | exact KB.out _ b6 | exact KB.out _ HB3.out.drew) ((first
    | (go_at_call 31; refine (HFL.out _).mono ?_; rintro e w6 ⟨rfl, b5⟩; have b6 := HB3.out.drew.trans (b5.mono HB3.out.size))
    | (refine stepT_one rfl (.tmp 20) (.tmp 30) rfl w1 w1.heap.size (.slice (some ⟨w1.heap.size, 0, none⟩) 1 1) [wAr] (ops ++ (⟨#[]⟩ : ByteArray) ++ F) rfl rfl (OwnT.on (show OwnT w1.heap.size W2.drew (.slice (some ⟨w1.heap.size, 0, none⟩) 1 1) [wAr] from HO.out) b5) (by simp) (Nat.le_refl _) b6 ?_; intro v7 w7 o7 b7)))
  rw [HK.out] at o7
  go_upto_region 8 with fail
  have y11 := cell_rowK (hkeepK b7 HP.out) 12 _ rfl
  go_upto_region 9 with (refine wpT_one rfl (.tmp 40) (.tmp 43) rfl w1 w1.heap.size _ ([wAr] ++ [key]) arc rfl rfl o7 (by simp) (Nat.le_refl _) b7 ?_; intro v10 w10 o10 b10)
  have y12 := cell_rowK (hkeepK b10 HP.out) 13 _ rfl
  have r10 := (HV.out.on hB).on b10
  go_wp2_with (refine wpT_all rfl (.tmp 45) (.tmp 47) rfl w1 w1.heap.size _ (.slice an nl nc) (([wAr] ++ [key]) ++ [arc]) N rfl rfl o10 r10 (by simp) (by omega) (Nat.le_refl _) b10 ?_; intro v11 w11 o11 b11)
  go_ret
  exact ⟨_, rfl, OwnT.le o11 hsz, bel3K hB b11⟩
set_option maxHeartbeats 8000000 in
theorem arLine_2p (prog on wh : Int) (vb up qu det dat bare thin : Bool) (anc arc : ByteArray) (an : Option Addr) (nl nc : Nat) (N : List ByteArray) (w : World) (hR : RowT w (.slice an nl nc) N) (hl : N.length ≤ 16777216) (ops q F key : ByteArray)
    (HPL : Hid (∀ W, Calls Tryd.prog 30 #[.int .i64 wh] W fun e w' => e = .returned (.tuple #[.string q, .bool true]) ∧ w' = W))
    (HFL : Hid (∀ W, Calls Tryd.prog 31 #[.agg #[.int .i64 prog, .int .u8 on, .bool vb, .bool up, .bool qu, .bool det, .bool dat, .bool bare, .bool thin, .int .i64 2, .int .i64 wh, .string anc, .string arc, .slice an nl nc]] W fun e w' => e = .returned (.string F) ∧ Below W.heap.size W w'))
    (hcv : IntKind.i32.wrap on = on) (hcs : Utf8.encode on = ops) (hk : ops ++ q ++ F = key) (hz1 : ¬ 9223372036854775807 < ops.size + q.size) (hz3 : ¬ 9223372036854775807 < ops.size + q.size + F.size) (n1 : (q.toList == []) = false) (n2 : q.toList.isEmpty = false) :
    Calls Tryd.prog 18 #[.agg #[.int .i64 prog, .int .u8 on, .bool vb, .bool up, .bool qu, .bool det, .bool dat, .bool bare, .bool thin, .int .i64 2, .int .i64 wh, .string anc, .string arc, .slice an nl nc]] w fun e w' => ∃ u, e = .returned u ∧ OwnT w.heap.size w' u (((([wAr] ++ [wBsd]) ++ [key]) ++ [anc]) ++ [arc] ++ N) ∧ Below w.heap.size w w' := by
  obtain ⟨w1, hw1⟩ : ∃ w1, w.alloc (.cells #[.int .i64 prog, .int .u8 on, .bool vb, .bool up, .bool qu, .bool det, .bool dat, .bool bare, .bool thin, .int .i64 2, .int .i64 wh, .string anc, .string arc, .slice an nl nc] 27) = w1 := ⟨_, rfl⟩
  have hP := heap_alloc_new w (.cells #[.int .i64 prog, .int .u8 on, .bool vb, .bool up, .bool qu, .bool det, .bool dat, .bool bare, .bool thin, .int .i64 2, .int .i64 wh, .string anc, .string arc, .slice an nl nc] 27)
  have hB : Below w.heap.size w w1 := by rw [← hw1]; exact bupK (Below.refl _ _) _
  rw [hw1] at hP
  have HP := hidK hP
  have HV := hidK hR
  have HK := hidK hk
  have hsz : w.heap.size ≤ w1.heap.size := hB.size
  obtain ⟨W2, hW2⟩ : ∃ W2, w1.alloc (.cells #[.string ⟨#[97, 114]⟩] 9) = W2 := ⟨_, rfl⟩
  have o2 : OwnT w1.heap.size W2 (.slice (some ⟨w1.heap.size, 0, none⟩) 1 1) [wAr] := by rw [← hW2]; exact ownT_mk [wAr] _ _ _ (Nat.le_refl _) (heap_alloc_new w1 _) (by simp)
  have b2 : Below w1.heap.size w1 W2 := by rw [← hW2]; exact bupK (Below.refl _ _) _
  have hx10 := cell_rowK hP 10 _ rfl
  clear hP hR hk
  go_enter Tryd.func18, Tryd.ntmps18
  go_upto_region 1 with fail
  try rw [hw1]
  clear hw1
  go_upto_region 2 with (go_at_call 30; refine (HPL.out _).mono ?_; rintro e w9 ⟨rfl, hw9⟩; rw [hw9]; clear hw9)
  go_upto_region 3 with fail
  try rw [hW2]
  clear hW2 HPL hx10
  have y9 := cell_rowK (hkeepK b2 HP.out) 9 _ rfl
  go_upto_region 5 with (refine wpT_one rfl (.tmp 17) (.tmp 18) rfl w1 w1.heap.size _ [wAr] ⟨#[45, 45, 102, 111, 114, 109, 97, 116, 61, 98, 115, 100]⟩ rfl rfl o2 (by simp) (Nat.le_refl _) b2 ?_; intro v3 w3 o3 b3)
  clear y9
  have KB : Hid (∀ W', Below w1.heap.size w1 W' → (fun w' : World => w'.cell? ⟨w.heap.size, 0, none⟩ = some (.int .i64 prog) ∧ w'.cell? ⟨w.heap.size, 1, none⟩ = some (.int .u8 on) ∧ w'.cell? ⟨w.heap.size, 2, none⟩ = some (.bool vb) ∧ w'.cell? ⟨w.heap.size, 3, none⟩ = some (.bool up) ∧ w'.cell? ⟨w.heap.size, 4, none⟩ = some (.bool qu) ∧ w'.cell? ⟨w.heap.size, 5, none⟩ = some (.bool det) ∧ w'.cell? ⟨w.heap.size, 6, none⟩ = some (.bool dat) ∧ w'.cell? ⟨w.heap.size, 7, none⟩ = some (.bool bare) ∧ w'.cell? ⟨w.heap.size, 8, none⟩ = some (.bool thin) ∧ w'.cell? ⟨w.heap.size, 9, none⟩ = some (.int .i64 2) ∧ w'.cell? ⟨w.heap.size, 10, none⟩ = some (.int .i64 wh) ∧ w'.cell? ⟨w.heap.size, 11, none⟩ = some (.string anc) ∧ w'.cell? ⟨w.heap.size, 12, none⟩ = some (.string arc) ∧ w'.cell? ⟨w.heap.size, 13, none⟩ = some (.slice an nl nc) ∧ Below w1.heap.size w1 w') W') := fun W' hb => ⟨cell_rowK (hkeepK hb HP.out) 0 _ rfl, cell_rowK (hkeepK hb HP.out) 1 _ rfl, cell_rowK (hkeepK hb HP.out) 2 _ rfl, cell_rowK (hkeepK hb HP.out) 3 _ rfl, cell_rowK (hkeepK hb HP.out) 4 _ rfl, cell_rowK (hkeepK hb HP.out) 5 _ rfl, cell_rowK (hkeepK hb HP.out) 6 _ rfl, cell_rowK (hkeepK hb HP.out) 7 _ rfl, cell_rowK (hkeepK hb HP.out) 8 _ rfl, cell_rowK (hkeepK hb HP.out) 9 _ rfl, cell_rowK (hkeepK hb HP.out) 10 _ rfl, cell_rowK (hkeepK hb HP.out) 11 _ rfl, cell_rowK (hkeepK hb HP.out) 12 _ rfl, cell_rowK (hkeepK hb HP.out) 13 _ rfl, hb⟩
  have HO := hidK o3
  have HB3 := hidK b3
  clear o3 b3
  go_region_held3 (fun w' : World => w'.cell? ⟨w.heap.size, 0, none⟩ = some (.int .i64 prog) ∧ w'.cell? ⟨w.heap.size, 1, none⟩ = some (.int .u8 on) ∧ w'.cell? ⟨w.heap.size, 2, none⟩ = some (.bool vb) ∧ w'.cell? ⟨w.heap.size, 3, none⟩ = some (.bool up) ∧ w'.cell? ⟨w.heap.size, 4, none⟩ = some (.bool qu) ∧ w'.cell? ⟨w.heap.size, 5, none⟩ = some (.bool det) ∧ w'.cell? ⟨w.heap.size, 6, none⟩ = some (.bool dat) ∧ w'.cell? ⟨w.heap.size, 7, none⟩ = some (.bool bare) ∧ w'.cell? ⟨w.heap.size, 8, none⟩ = some (.bool thin) ∧ w'.cell? ⟨w.heap.size, 9, none⟩ = some (.int .i64 2) ∧ w'.cell? ⟨w.heap.size, 10, none⟩ = some (.int .i64 wh) ∧ w'.cell? ⟨w.heap.size, 11, none⟩ = some (.string anc) ∧ w'.cell? ⟨w.heap.size, 12, none⟩ = some (.string arc) ∧ w'.cell? ⟨w.heap.size, 13, none⟩ = some (.slice an nl nc) ∧ Below w1.heap.size w1 w') (first | exact KB.out _ b7 | exact KB.out _ (b6.alloc b6.size _) | exact KB.out _ b6 | exact KB.out _ HB3.out.drew) ((first
    | (go_at_call 31; refine (HFL.out _).mono ?_; rintro e w6 ⟨rfl, b5⟩; have b6 := HB3.out.drew.trans (b5.mono HB3.out.size))
    | (refine stepT_one rfl (.tmp 20) (.tmp 30) rfl w1 w1.heap.size v3 ([wAr] ++ [wBsd]) (ops ++ q ++ F) rfl rfl (OwnT.on (show OwnT w1.heap.size w3.drew v3 ([wAr] ++ [wBsd]) from HO.out) b5) (by simp) (Nat.le_refl _) b6 ?_; intro v7 w7 o7 b7)))
  rw [HK.out] at o7
  have y6 := cell_rowK (hkeepK b7 HP.out) 11 _ rfl
  go_upto_region 8 with (refine wpT_one rfl (.tmp 34) (.tmp 38) rfl w1 w1.heap.size _ (([wAr] ++ [wBsd]) ++ [key]) anc rfl rfl o7 (by simp) (Nat.le_refl _) b7 ?_; intro v8 w8 o8 b8)
  have y11 := cell_rowK (hkeepK b8 HP.out) 12 _ rfl
  go_upto_region 9 with (refine wpT_one rfl (.tmp 40) (.tmp 43) rfl w1 w1.heap.size _ ((([wAr] ++ [wBsd]) ++ [key]) ++ [anc]) arc rfl rfl o8 (by simp) (Nat.le_refl _) b8 ?_; intro v10 w10 o10 b10)
  have y12 := cell_rowK (hkeepK b10 HP.out) 13 _ rfl
  have r10 := (HV.out.on hB).on b10
  go_wp2_with (refine wpT_all rfl (.tmp 45) (.tmp 47) rfl w1 w1.heap.size _ (.slice an nl nc) (((([wAr] ++ [wBsd]) ++ [key]) ++ [anc]) ++ [arc]) N rfl rfl o10 r10 (by simp) (by omega) (Nat.le_refl _) b10 ?_; intro v11 w11 o11 b11)
  go_ret
  exact ⟨_, rfl, OwnT.le o11 hsz, bel3K hB b11⟩
set_option maxHeartbeats 8000000 in
theorem arLine_2n (prog on wh : Int) (vb up qu det dat bare thin : Bool) (anc arc : ByteArray) (an : Option Addr) (nl nc : Nat) (N : List ByteArray) (w : World) (hR : RowT w (.slice an nl nc) N) (hl : N.length ≤ 16777216) (ops q F key : ByteArray)
    (HPL : Hid (∀ W, Calls Tryd.prog 30 #[.int .i64 wh] W fun e w' => e = .returned (.tuple #[.string ⟨#[]⟩, .bool true]) ∧ w' = W))
    (HFL : Hid (∀ W, Calls Tryd.prog 31 #[.agg #[.int .i64 prog, .int .u8 on, .bool vb, .bool up, .bool qu, .bool det, .bool dat, .bool bare, .bool thin, .int .i64 2, .int .i64 wh, .string anc, .string arc, .slice an nl nc]] W fun e w' => e = .returned (.string F) ∧ Below W.heap.size W w'))
    (hcv : IntKind.i32.wrap on = on) (hcs : Utf8.encode on = ops) (hk : ops ++ (⟨#[]⟩ : ByteArray) ++ F = key) (hz1 : ¬ 9223372036854775807 < ops.size) (hz3 : ¬ 9223372036854775807 < ops.size + F.size) :
    Calls Tryd.prog 18 #[.agg #[.int .i64 prog, .int .u8 on, .bool vb, .bool up, .bool qu, .bool det, .bool dat, .bool bare, .bool thin, .int .i64 2, .int .i64 wh, .string anc, .string arc, .slice an nl nc]] w fun e w' => ∃ u, e = .returned u ∧ OwnT w.heap.size w' u ((([wAr] ++ [wBsd]) ++ [key]) ++ [arc] ++ N) ∧ Below w.heap.size w w' := by
  obtain ⟨w1, hw1⟩ : ∃ w1, w.alloc (.cells #[.int .i64 prog, .int .u8 on, .bool vb, .bool up, .bool qu, .bool det, .bool dat, .bool bare, .bool thin, .int .i64 2, .int .i64 wh, .string anc, .string arc, .slice an nl nc] 27) = w1 := ⟨_, rfl⟩
  have hP := heap_alloc_new w (.cells #[.int .i64 prog, .int .u8 on, .bool vb, .bool up, .bool qu, .bool det, .bool dat, .bool bare, .bool thin, .int .i64 2, .int .i64 wh, .string anc, .string arc, .slice an nl nc] 27)
  have hB : Below w.heap.size w w1 := by rw [← hw1]; exact bupK (Below.refl _ _) _
  rw [hw1] at hP
  have HP := hidK hP
  have HV := hidK hR
  have HK := hidK hk
  have hsz : w.heap.size ≤ w1.heap.size := hB.size
  obtain ⟨W2, hW2⟩ : ∃ W2, w1.alloc (.cells #[.string ⟨#[97, 114]⟩] 9) = W2 := ⟨_, rfl⟩
  have o2 : OwnT w1.heap.size W2 (.slice (some ⟨w1.heap.size, 0, none⟩) 1 1) [wAr] := by rw [← hW2]; exact ownT_mk [wAr] _ _ _ (Nat.le_refl _) (heap_alloc_new w1 _) (by simp)
  have b2 : Below w1.heap.size w1 W2 := by rw [← hW2]; exact bupK (Below.refl _ _) _
  have hx10 := cell_rowK hP 10 _ rfl
  clear hP hR hk
  go_enter Tryd.func18, Tryd.ntmps18
  go_upto_region 1 with fail
  try rw [hw1]
  clear hw1
  go_upto_region 2 with (go_at_call 30; refine (HPL.out _).mono ?_; rintro e w9 ⟨rfl, hw9⟩; rw [hw9]; clear hw9)
  go_upto_region 3 with fail
  try rw [hW2]
  clear hW2 HPL hx10
  have y9 := cell_rowK (hkeepK b2 HP.out) 9 _ rfl
  go_upto_region 5 with (refine wpT_one rfl (.tmp 17) (.tmp 18) rfl w1 w1.heap.size _ [wAr] ⟨#[45, 45, 102, 111, 114, 109, 97, 116, 61, 98, 115, 100]⟩ rfl rfl o2 (by simp) (Nat.le_refl _) b2 ?_; intro v3 w3 o3 b3)
  clear y9
  have KB : Hid (∀ W', Below w1.heap.size w1 W' → (fun w' : World => w'.cell? ⟨w.heap.size, 0, none⟩ = some (.int .i64 prog) ∧ w'.cell? ⟨w.heap.size, 1, none⟩ = some (.int .u8 on) ∧ w'.cell? ⟨w.heap.size, 2, none⟩ = some (.bool vb) ∧ w'.cell? ⟨w.heap.size, 3, none⟩ = some (.bool up) ∧ w'.cell? ⟨w.heap.size, 4, none⟩ = some (.bool qu) ∧ w'.cell? ⟨w.heap.size, 5, none⟩ = some (.bool det) ∧ w'.cell? ⟨w.heap.size, 6, none⟩ = some (.bool dat) ∧ w'.cell? ⟨w.heap.size, 7, none⟩ = some (.bool bare) ∧ w'.cell? ⟨w.heap.size, 8, none⟩ = some (.bool thin) ∧ w'.cell? ⟨w.heap.size, 9, none⟩ = some (.int .i64 2) ∧ w'.cell? ⟨w.heap.size, 10, none⟩ = some (.int .i64 wh) ∧ w'.cell? ⟨w.heap.size, 11, none⟩ = some (.string anc) ∧ w'.cell? ⟨w.heap.size, 12, none⟩ = some (.string arc) ∧ w'.cell? ⟨w.heap.size, 13, none⟩ = some (.slice an nl nc) ∧ Below w1.heap.size w1 w') W') := fun W' hb => ⟨cell_rowK (hkeepK hb HP.out) 0 _ rfl, cell_rowK (hkeepK hb HP.out) 1 _ rfl, cell_rowK (hkeepK hb HP.out) 2 _ rfl, cell_rowK (hkeepK hb HP.out) 3 _ rfl, cell_rowK (hkeepK hb HP.out) 4 _ rfl, cell_rowK (hkeepK hb HP.out) 5 _ rfl, cell_rowK (hkeepK hb HP.out) 6 _ rfl, cell_rowK (hkeepK hb HP.out) 7 _ rfl, cell_rowK (hkeepK hb HP.out) 8 _ rfl, cell_rowK (hkeepK hb HP.out) 9 _ rfl, cell_rowK (hkeepK hb HP.out) 10 _ rfl, cell_rowK (hkeepK hb HP.out) 11 _ rfl, cell_rowK (hkeepK hb HP.out) 12 _ rfl, cell_rowK (hkeepK hb HP.out) 13 _ rfl, hb⟩
  have HO := hidK o3
  have HB3 := hidK b3
  clear o3 b3
  go_region_held3 (fun w' : World => w'.cell? ⟨w.heap.size, 0, none⟩ = some (.int .i64 prog) ∧ w'.cell? ⟨w.heap.size, 1, none⟩ = some (.int .u8 on) ∧ w'.cell? ⟨w.heap.size, 2, none⟩ = some (.bool vb) ∧ w'.cell? ⟨w.heap.size, 3, none⟩ = some (.bool up) ∧ w'.cell? ⟨w.heap.size, 4, none⟩ = some (.bool qu) ∧ w'.cell? ⟨w.heap.size, 5, none⟩ = some (.bool det) ∧ w'.cell? ⟨w.heap.size, 6, none⟩ = some (.bool dat) ∧ w'.cell? ⟨w.heap.size, 7, none⟩ = some (.bool bare) ∧ w'.cell? ⟨w.heap.size, 8, none⟩ = some (.bool thin) ∧ w'.cell? ⟨w.heap.size, 9, none⟩ = some (.int .i64 2) ∧ w'.cell? ⟨w.heap.size, 10, none⟩ = some (.int .i64 wh) ∧ w'.cell? ⟨w.heap.size, 11, none⟩ = some (.string anc) ∧ w'.cell? ⟨w.heap.size, 12, none⟩ = some (.string arc) ∧ w'.cell? ⟨w.heap.size, 13, none⟩ = some (.slice an nl nc) ∧ Below w1.heap.size w1 w') (first | exact KB.out _ b7 | exact KB.out _ (b6.alloc b6.size _) | exact KB.out _ b6 | exact KB.out _ HB3.out.drew) ((first
    | (go_at_call 31; refine (HFL.out _).mono ?_; rintro e w6 ⟨rfl, b5⟩; have b6 := HB3.out.drew.trans (b5.mono HB3.out.size))
    | (refine stepT_one rfl (.tmp 20) (.tmp 30) rfl w1 w1.heap.size v3 ([wAr] ++ [wBsd]) (ops ++ (⟨#[]⟩ : ByteArray) ++ F) rfl rfl (OwnT.on (show OwnT w1.heap.size w3.drew v3 ([wAr] ++ [wBsd]) from HO.out) b5) (by simp) (Nat.le_refl _) b6 ?_; intro v7 w7 o7 b7)))
  rw [HK.out] at o7
  go_upto_region 8 with fail
  have y11 := cell_rowK (hkeepK b7 HP.out) 12 _ rfl
  go_upto_region 9 with (refine wpT_one rfl (.tmp 40) (.tmp 43) rfl w1 w1.heap.size _ (([wAr] ++ [wBsd]) ++ [key]) arc rfl rfl o7 (by simp) (Nat.le_refl _) b7 ?_; intro v10 w10 o10 b10)
  have y12 := cell_rowK (hkeepK b10 HP.out) 13 _ rfl
  have r10 := (HV.out.on hB).on b10
  go_wp2_with (refine wpT_all rfl (.tmp 45) (.tmp 47) rfl w1 w1.heap.size _ (.slice an nl nc) ((([wAr] ++ [wBsd]) ++ [key]) ++ [arc]) N rfl rfl o10 r10 (by simp) (by omega) (Nat.le_refl _) b10 ?_; intro v11 w11 o11 b11)
  go_ret
  exact ⟨_, rfl, OwnT.le o11 hsz, bel3K hB b11⟩
end Go.Proofs.YtmhamlhmmkbkaaaDoor
