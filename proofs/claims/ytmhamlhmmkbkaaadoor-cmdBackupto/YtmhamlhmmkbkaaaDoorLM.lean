
-- meant: the command that a line can mean.
import Derived.Test.YtmhamlhmmkbkaaaDoorG5
import Derived.Deep.RegionHeld3
import Derived.Deep.CutRange
import Derived.Laws.Rows
import Derived.Shelf.Abstract
namespace Go.Proofs.YtmhamlhmmkbkaaaDoor
open Go.ChangeShapes Go.WideShapes Go.ChangeAt Go.RowKit
set_option linter.unusedVariables false
set_option maxRecDepth 100000
set_option linter.unusedSimpArgs false
theorem results_cell15 {P : Program} {fn : Func} {p : Tmp} {ty : TypeId} (h : fn.results = #[.cell p ty]) (tmps : Array Value) (w : World) (g : Nat) (t : TypeId) (cs : Array Value) (fr : Nat × Nat) (d : TypeDesc)
    (hp : tmps.getD p undef = .pointer (some ⟨g, 0, none⟩)) (hg : w.heap[g]? = some (.cells cs t fr))
    (hu : P.underlying ty = some d) (hd : (match d with | .struct _ | .array _ _ => true | _ => false) = true) (hi : (P.info? ty).map (·.size) = some cs.size) :
    (results fn tmps).run P w = .ok (.agg cs) w := by
  have hp' : tmps[p]?.getD undef = .pointer (some ⟨g, 0, none⟩) := by simpa using hp
  simp [results, h, hp', asAddr, run_loadVar_row w g t ty cs fr d hg hu hd hi]
theorem sizeCm : (Tryd.prog.info? 27).map (·.size) = some 14 := by kernel_rfl
theorem ready_call1 {P : Program} {ops : Array Oper} {o : Oper} {a : Act} {w : World} {K : Act → World → Prop} {Q : Exit → Act → World → Prop} {E : Prop} {r : Value} {f : FuncId} {x : Operand} {ts : Array TypeId} {p : Value}
    (hgd : o.guard = none) (hop : o.op = Op.call { callee := Callee.value (Operand.func f), args := #[x], argTypes := ts }) (hx : a.eval x = p)
    (hc : Calls P f #[p] w fun e w' => e = .returned r ∧ w' = w) (eg : Enters P f) (h : K (a.put o.dst r) w) :
    if Region.wanted o (yielded ops a.tmps) = true then Oper.wp P o a w K Q else E := by
  rw [if_pos (by simp [Region.wanted, hgd])]
  have hr : ∀ ρ : Operand → Value, ρ (Operand.func f) = .func (.func f) #[] #[] → ρ x = p → (execOp ρ o).run P w = .ok (.enter f #[p]) w := by
    intro ρ h1 h2
    have e1 := eg #[p] w
    simp [execOp, hop, resolve, invoke, h1, h2, e1, go_sem]
  have hr := hr a.eval rfl hx
  unfold Oper.wp
  rw [hr, Oper.upon_enter]
  refine hc.mono ?_
  rintro e w' ⟨rfl, hw'⟩
  rw [hw']
  exact h
theorem step_store15 {P : Program} {ops : Array Oper} {o : Oper} {a : Act} {w : World} {K : Act → World → Prop} {Q : Exit → Act → World → Prop} {E : Prop} (hgd : o.guard = none) (hd : o.dst = none) (ty : TypeId) (x y : Operand) (ho : o.op = .store ty x y)
    (g off : Nat) (v : Value) (hx : a.eval x = .pointer (some ⟨g, off, none⟩)) (hy : a.eval y = v)
    (t : TypeId) (old new : Array Value) (hg : w.heap[g]? = some (.cells old t (0, 0))) (hi : (P.info? ty).map (·.size) = some v.cells.size)
    (hfit : Nat.ble (off + v.cells.size) old.size = true) (h1 : v.cells.toList.all (·.oneCell') = true) (hnew : putAt old off v.cells = new)
    (h : ∀ W : World, W.heap[g]? = some (.cells new t (0, 0)) → Kq g w W → K a W) : if Region.wanted o (yielded ops a.tmps) = true then Oper.wp P o a w K Q else E := by
  rw [if_pos (by simp [Region.wanted, hgd])]
  subst hy
  have hst : (storeVar ty ⟨g, off, none⟩ (a.eval y)).run P w = .ok () (w.setRow g new) := by
    have := run_storeCells_at (P := P) g off t (a.eval y).cells.toList 0 old w hg (by simpa using Nat.le_of_ble_eq_true hfit) (fun v hv => (List.all_eq_true.1 h1) v hv)
    cases hq : P.info? ty with
    | none => simp [hq] at hi
    | some i =>
      have hs : (a.eval y).cells.size = i.size := by simp [hq] at hi; omega
      simp only [Nat.add_zero, Array.length_toList] at this
      unfold putAt at hnew
      rw [hnew] at this
      simp [storeVar, sizeOf, typeInfo, hq, hs, this]
  unfold Oper.wp execOp
  simp only [ho, hx, Instr.storeAt, Instr.sureAddr, Sem.run_bind, Sem.run_pure, Result.andThen_ok, hst]
  have hh := h _ (setRow_heap w g old new t (0, 0) hg) (Kq.row w g new)
  have e : a.put o.dst undef = a := by rw [hd]; rfl
  rw [← e] at hh
  exact hh
theorem cellQ15 {w W : World} {g b o : Nat} {v : Value} (h : w.cell? ⟨b, o, none⟩ = some v) (q : Kq g w W) (hne : b ≠ g) : W.cell? ⟨b, o, none⟩ = some v := by
  have hl := World.block_lt_of_cell? _ _ h
  have := q.block b hne hl
  unfold World.cell? at h ⊢
  simp only [this]
  exact h
set_option maxHeartbeats 16000000 in
theorem meant_rant (on kind wh : Int) (vb up qu det dat bare thin : Bool) (anc arc : ByteArray) (an : Option Addr) (nl nc : Nat) (nms : List ByteArray) (w : World) (hR : RowT w (.slice an nl nc) nms) (hl : nms.length ≤ 16777216) (H1 : Hid (∀ W, Calls Tryd.prog 19 #[.int .u8 on, .string ⟨#[100, 109, 112, 113, 114, 115, 116, 120]⟩] W fun e w' => e = .returned (.bool true) ∧ w' = W)) (ua : ByteArray) (HU : Hid (∀ W, Calls Tryd.prog 20 #[.string arc] W fun e w' => e = .returned (.string ua) ∧ w' = W)) :
    Calls Tryd.prog 13 #[.agg #[.int .i64 1, .int .u8 on, .bool vb, .bool up, .bool qu, .bool det, .bool dat, .bool bare, .bool thin, .int .i64 kind, .int .i64 wh, .string anc, .string arc, .slice an nl nc]] w fun e w' => ∃ u, e = .returned (.agg #[.int .i64 1, .int .u8 115, .bool false, .bool false, .bool false, .bool det, .bool false, .bool false, .bool false, .int .i64 0, .int .i64 0, .string ⟨#[]⟩, .string ua, u]) ∧ OwnT w.heap.size w' u nms ∧ Below w.heap.size w w' := by
  obtain ⟨w1, hw1⟩ : ∃ w1, (w.alloc (.cells #[.int .i64 1, .int .u8 on, .bool vb, .bool up, .bool qu, .bool det, .bool dat, .bool bare, .bool thin, .int .i64 kind, .int .i64 wh, .string anc, .string arc, .slice an nl nc] 27)).alloc (.cells #[.int .i64 0, .int .u8 0, .bool false, .bool false, .bool false, .bool false, .bool false, .bool false, .bool false, .int .i64 0, .int .i64 0, .string ⟨#[]⟩, .string ⟨#[]⟩, .slice none 0 0] 27) = w1 := ⟨_, rfl⟩
  have hPc : w1.heap[w.heap.size]? = some (.cells #[.int .i64 1, .int .u8 on, .bool vb, .bool up, .bool qu, .bool det, .bool dat, .bool bare, .bool thin, .int .i64 kind, .int .i64 wh, .string anc, .string arc, .slice an nl nc] 27 (0, 0)) := by rw [← hw1]; exact hupK (heap_alloc_new w _) _
  have hPr : w1.heap[w.heap.size + 1]? = some (.cells #[.int .i64 0, .int .u8 0, .bool false, .bool false, .bool false, .bool false, .bool false, .bool false, .bool false, .int .i64 0, .int .i64 0, .string ⟨#[]⟩, .string ⟨#[]⟩, .slice none 0 0] 27 (0, 0)) := by rw [← hw1]; exact heap_new2K w _ _
  have hB1 : Below w.heap.size w w1 := by rw [← hw1]; exact (bupK (Below.refl _ _) _).alloc (by rw [World.size_alloc]; omega) _
  have hsz : w1.heap.size = w.heap.size + 2 := by rw [← hw1, World.size_alloc, World.size_alloc]
  have HPC := hidK hPc
  have HPR := hidK hPr
  have HSZ := hidK hsz
  have HV := hidK hR
  have x1 := cell_rowK hPc 1 _ rfl
  have x2 := cell_rowK hPc 2 _ rfl
  have x5 := cell_rowK hPc 5 _ rfl
  have x12 := cell_rowK hPc 12 _ rfl
  have hPd := heap_alloc_new w1 (.cells #[.int .i64 0, .int .u8 0, .bool false, .bool false, .bool false, .bool false, .bool false, .bool false, .bool false, .int .i64 0, .int .i64 0, .string ⟨#[]⟩, .string ⟨#[]⟩, .slice none 0 0] 27)
  have HB2 : Hid (∀ W, Kq w1.heap.size (w1.alloc (.cells #[.int .i64 0, .int .u8 0, .bool false, .bool false, .bool false, .bool false, .bool false, .bool false, .bool false, .int .i64 0, .int .i64 0, .string ⟨#[]⟩, .string ⟨#[]⟩, .slice none 0 0] 27)) W → Below w1.heap.size w1 W) := fun W q => q.belowN (bupK (Below.refl _ _) _) (Nat.le_refl _) (Nat.le_refl _)
  clear hPc hPr hsz hR
  go_enter Tryd.func13, Tryd.ntmps13
  go_upto_region 1 with fail
  try rw [hw1]
  clear hw1
  go_upto_region 2 with (refine wpList_store_kz rfl rfl _ _ _ rfl w1.heap.size 0 (.agg #[.int .i64 0, .int .u8 on, .bool vb, .bool false, .bool false, .bool det, .bool false, .bool false, .bool false, .int .i64 0, .int .i64 0, .string ⟨#[]⟩, .string arc, .slice none 0 0]) rfl rfl _ _ #[.int .i64 0, .int .u8 on, .bool vb, .bool false, .bool false, .bool det, .bool false, .bool false, .bool false, .int .i64 0, .int .i64 0, .string ⟨#[]⟩, .string arc, .slice none 0 0] hPd (by kernel_rfl) rfl rfl rfl ?_; intro W2 S2 q2)
  have b2 := HB2.out W2 q2
  clear hPd HB2 q2 x1 x2 x5 x12
  have y13 := cell_rowK S2 13 _ rfl
  have x13 := cell_rowK (hkeepK b2 HPC.out) 13 _ rfl
  have hg2 : w1.heap.size < W2.heap.size := (Array.getElem?_eq_some_iff.1 S2).1
  have r2 := (HV.out.on hB1).on b2
  have HS2 := hidK S2
  go_upto_region 3 with (first
    | (refine wpT_all rfl (.tmp 16) (.tmp 18) rfl W2 W2.heap.size (.slice none 0 0) (.slice an nl nc) [] nms rfl rfl (ownT_nil _ _) r2 (by simp) (by omega) (Nat.le_refl _) (Below.refl _ _) ?_; intro v3 w3 o3 b3; obtain ⟨a3, k3, hv3⟩ := OwnT.form o3; rw [hv3] at o3 ⊢; have S3 := hkeepK b3 HS2.out; clear hv3)
    | (refine wpList_store_kz rfl rfl _ _ _ rfl w1.heap.size 13 (.slice a3 ([] ++ nms).length k3) rfl rfl _ _ #[.int .i64 0, .int .u8 on, .bool vb, .bool false, .bool false, .bool det, .bool false, .bool false, .bool false, .int .i64 0, .int .i64 0, .string ⟨#[]⟩, .string arc, .slice a3 ([] ++ nms).length k3] S3 (by kernel_rfl) rfl rfl rfl ?_; intro W4 S4 q4))
  obtain ⟨n3, hn3⟩ : ∃ n3, n3 = nms.length := ⟨_, rfl⟩
  have o4 : OwnT W2.heap.size W4 (.slice a3 n3 k3) nms := by
    rw [hn3]
    exact own_kqK (t := 27) o3 q4 (hkeepK b3 HS2.out) (by decide)
  have S4 : W4.heap[w1.heap.size]? = some (.cells #[.int .i64 0, .int .u8 on, .bool vb, .bool false, .bool false, .bool det, .bool false, .bool false, .bool false, .int .i64 0, .int .i64 0, .string ⟨#[]⟩, .string arc, .slice a3 n3 k3] 27 (0, 0)) := by rw [hn3]; exact S4
  have b4 : Below w1.heap.size w1 W4 := q4.belowN (bel3K b2 b3) (Nat.le_refl _) (Nat.le_refl _)
  have HO4 := hidK o4
  have HS40 := hidK S4
  have HB4 := hidK b4
  have HPC4 := hidK (hkeepK b4 HPC.out)
  have HPR4 := hidK (hkeepK b4 HPR.out)
  have hg4 : W2.heap.size ≤ W4.heap.size := Nat.le_trans b3.size q4.size
  have z1 := cell_rowK HPC4.out 1 _ rfl
  clear o3 b3 S3 q4 r2 x13 y13 b2 HS2 o4 b4 hn3
  go_upto_region 4 with (go_at_call 19; refine (H1.out _).mono ?_; rintro e w9 ⟨rfl, hw9⟩; rw [hw9]; clear hw9)
  go_upto_region 6 with fail
  have HS5 := hidK S4
  have HQ5 := hidK (Kq.id w1.heap.size W4)
  have hWc : W4 = W4 := rfl
  clear z1 S4 H1
  have x0 := cell_rowK (HQ5.out.keeps (by have := HSZ.out; omega) HPC4.out) 0 _ rfl
  have c5 := cell_rowK (HQ5.out.keeps (by have := HSZ.out; omega) HPC4.out) 5 _ rfl
  have c12 := cell_rowK (HQ5.out.keeps (by have := HSZ.out; omega) HPC4.out) 12 _ rfl
  have d13 := cell_rowK HS5.out 13 _ rfl
  have HR5 := hidK (HQ5.out.keeps (by have := HSZ.out; omega) HPR4.out)
  have KS : Hid (∀ W' : World, Kq (w.heap.size + 1) W4 W' → (fun w' : World => w'.cell? ⟨w.heap.size, 5, none⟩ = some (.bool det) ∧ w'.cell? ⟨w.heap.size, 12, none⟩ = some (.string arc) ∧ w'.cell? ⟨w1.heap.size, 13, none⟩ = some (.slice a3 n3 k3)) W') := fun W' q => ⟨cellQ15 c5 q (by omega), cellQ15 c12 q (by omega), cellQ15 d13 q (by have := HSZ.out; omega)⟩
  go_upto_region 7 with fail
  refine wp_region_noPanic ?_
  refine wp_region_held_drew (S := (fun w' : World => w'.cell? ⟨w.heap.size, 5, none⟩ = some (.bool det) ∧ w'.cell? ⟨w.heap.size, 12, none⟩ = some (.string arc) ∧ w'.cell? ⟨w1.heap.size, 13, none⟩ = some (.slice a3 n3 k3))) (by kernel_rfl) ⟨c5, c12, d13⟩ (fun hHeld => ?_)
  refine wpAnyH_take (i := 0) (oi := { dst := some 30, op := Op.fieldAddr 27 (Operand.tmp 1) 5, type := 0, pos := "plain.go:38", after := #[], guard := none }) (v := ?_) rfl (by kernel_rfl) (by kernel_rfl) (by kernel_rfl) (fun _ _ _ h => h) (Or.inl ⟨by rfl, ?_⟩) hHeld ?_
  rotate_left
  · intro w hSw; (try dsimp only at hSw); go_simp; try with_reducible rfl
  (try simp only [Act.put, List.setIfInBounds_toArray, List.set_cons_zero, List.set_cons_succ])
  refine wpAnyH_take (i := 1) (oi := { dst := some 31, op := Op.load 4 (Operand.tmp 30), type := 4, pos := "plain.go:38", after := #[{ on := 0, ground := Ground.data }], guard := none }) (v := ?_) rfl (by kernel_rfl) (by kernel_rfl) (by kernel_rfl) (fun _ _ _ h => h) (Or.inl ⟨by rfl, ?_⟩) hHeld ?_
  rotate_left
  · intro w hSw; (try dsimp only at hSw); go_simp; try with_reducible rfl
  (try simp only [Act.put, List.setIfInBounds_toArray, List.set_cons_zero, List.set_cons_succ])
  refine wpAnyH_take (i := 2) (oi := { dst := some 32, op := Op.fieldAddr 27 (Operand.tmp 1) 11, type := 0, pos := "plain.go:38", after := #[], guard := none }) (v := ?_) rfl (by kernel_rfl) (by kernel_rfl) (by kernel_rfl) (fun _ _ _ h => h) (Or.inl ⟨by rfl, ?_⟩) hHeld ?_
  rotate_left
  · intro w hSw; (try dsimp only at hSw); go_simp; try with_reducible rfl
  (try simp only [Act.put, List.setIfInBounds_toArray, List.set_cons_zero, List.set_cons_succ])
  refine wpAnyH_take (i := 3) (oi := { dst := some 33, op := Op.load 9 (Operand.tmp 32), type := 9, pos := "plain.go:38", after := #[{ on := 2, ground := Ground.data }], guard := none }) (v := ?_) rfl (by kernel_rfl) (by kernel_rfl) (by kernel_rfl) (fun _ _ _ h => h) (Or.inl ⟨by rfl, ?_⟩) hHeld ?_
  rotate_left
  · intro w hSw; (try dsimp only at hSw); go_simp; try with_reducible rfl
  (try simp only [Act.put, List.setIfInBounds_toArray, List.set_cons_zero, List.set_cons_succ])
  refine wpAnyH_take (i := 5) (oi := { dst := some 35, op := Op.fieldAddr 27 (Operand.tmp 3) 12, type := 0, pos := "plain.go:38", after := #[], guard := none }) (v := ?_) rfl (by kernel_rfl) (by kernel_rfl) (by kernel_rfl) (fun _ _ _ h => h) (Or.inl ⟨by rfl, ?_⟩) hHeld ?_
  rotate_left
  · intro w hSw; (try dsimp only at hSw); go_simp; try with_reducible rfl
  (try simp only [Act.put, List.setIfInBounds_toArray, List.set_cons_zero, List.set_cons_succ])
  refine wpAnyH_take (i := 6) (oi := { dst := some 36, op := Op.load 22 (Operand.tmp 35), type := 22, pos := "plain.go:38", after := #[{ on := 5, ground := Ground.data }], guard := none }) (v := ?_) rfl (by kernel_rfl) (by kernel_rfl) (by kernel_rfl) (fun _ _ _ h => h) (Or.inl ⟨by rfl, ?_⟩) hHeld ?_
  rotate_left
  · intro w hSw; (try dsimp only at hSw); go_simp; try with_reducible rfl
  (try simp only [Act.put, List.setIfInBounds_toArray, List.set_cons_zero, List.set_cons_succ])
  refine wpAnyH_ready (rs := [4]) (by kernel_rfl) (by simp) (AllReadyH.cons (o := { dst := some 34, op := Op.call { callee := Callee.value (Operand.func 20), args := #[Operand.tmp 33], argTypes := #[9] }, type := 9, pos := "plain.go:38", after := #[{ on := 3, ground := Ground.data }], guard := none }) rfl (fun K hK => ?_) AllReadyH.nil)
  refine ready_call1 (r := .string ua) rfl rfl rfl (HU.out _) (enters_of Tryd.func20 (by kernel_rfl) rfl) ?_
  refine hK.out _ _ hHeld (fun hHeld => ?_)
  clear hK K
  (try simp only [Act.put, List.setIfInBounds_toArray, List.set_cons_zero, List.set_cons_succ])
  refine wpAnyH_take (i := 7) (oi := { dst := some 37, op := Op.build 27 #[(0, Operand.const (Value.int IntKind.i64 1)), (1, Operand.const (Value.int IntKind.u8 115)), (5, Operand.tmp 31), (11, Operand.tmp 34), (12, Operand.tmp 36)], type := 27, pos := "plain.go:38", after := #[{ on := 1, ground := Ground.data }, { on := 4, ground := Ground.data }, { on := 6, ground := Ground.data }], guard := none }) (v := ?_) rfl (by kernel_rfl) (by kernel_rfl) (by kernel_rfl) (fun _ _ _ h => h) (Or.inl ⟨by rfl, ?_⟩) hHeld ?_
  rotate_left
  · intro w hSw; (try dsimp only at hSw); go_simp; try with_reducible rfl
  (try simp only [Act.put, List.setIfInBounds_toArray, List.set_cons_zero, List.set_cons_succ])
  refine wpAnyH_ready (rs := [8]) (by kernel_rfl) (by simp) (AllReadyH.cons (o := { dst := none, op := Op.store 27 (Operand.tmp 2) (Operand.tmp 37), type := 0, pos := "plain.go:38", after := #[{ on := 7, ground := Ground.data }, { on := 4, ground := Ground.chain }, { on := 0, ground := Ground.phase }, { on := 1, ground := Ground.phase }, { on := 2, ground := Ground.phase }, { on := 3, ground := Ground.phase }, { on := 4, ground := Ground.phase }, { on := 5, ground := Ground.phase }, { on := 6, ground := Ground.phase }, { on := 7, ground := Ground.phase }], guard := none }) rfl (fun K hK => ?_) AllReadyH.nil)
  refine step_store15 rfl rfl _ _ _ rfl (w.heap.size + 1) 0 (.agg #[.int .i64 1, .int .u8 115, .bool false, .bool false, .bool false, .bool det, .bool false, .bool false, .bool false, .int .i64 0, .int .i64 0, .string ⟨#[]⟩, .string ua, .slice a3 n3 k3]) rfl rfl _ _ #[.int .i64 1, .int .u8 115, .bool false, .bool false, .bool false, .bool det, .bool false, .bool false, .bool false, .int .i64 0, .int .i64 0, .string ⟨#[]⟩, .string ua, .slice a3 n3 k3] HR5.out (by kernel_rfl) rfl rfl rfl ?_
  intro W8 S8 q8
  have q8 : Kq (w.heap.size + 1) W4 W8 := ⟨q8.os, q8.tape, q8.output, q8.size, q8.block⟩
  refine hK.out _ _ (KS.out _ q8) (fun hHeld => ?_)
  clear hK K
  (try simp only [Act.put, List.setIfInBounds_toArray, List.set_cons_zero, List.set_cons_succ])
  refine wpAnyH_done (by kernel_rfl) ?_ _
  refine NoPanic.normal ?_
  go_wp2
  refine bodyPost_ret (results_cell15 rfl _ _ (w.heap.size + 1) _ _ _ _ rfl S8 Tryd.underlying27 rfl sizeCm) rfl ?_
  refine ⟨_, rfl, ?_, ?_⟩
  · exact OwnT.le (own_kqK (t := 27) (own_kqK (t := 27) HO4.out HQ5.out HS40.out (by decide)) q8 HR5.out (by decide)) (Nat.le_trans hB1.size (Nat.le_trans (by have := HSZ.out; omega) (Nat.le_of_lt hg2)))
  · exact q8.belowN (HQ5.out.belowN (hB1.trans (HB4.out.mono hB1.size)) hB1.size (Nat.le_refl _)) (by omega) (Nat.le_refl _)
set_option maxHeartbeats 16000000 in
theorem meant_ranf (on kind wh : Int) (vb up qu det dat bare thin : Bool) (anc arc : ByteArray) (an : Option Addr) (nl nc : Nat) (nms : List ByteArray) (w : World) (hR : RowT w (.slice an nl nc) nms) (hl : nms.length ≤ 16777216) (H1 : Hid (∀ W, Calls Tryd.prog 19 #[.int .u8 on, .string ⟨#[100, 109, 112, 113, 114, 115, 116, 120]⟩] W fun e w' => e = .returned (.bool false) ∧ w' = W)) (ua : ByteArray) (HU : Hid (∀ W, Calls Tryd.prog 20 #[.string arc] W fun e w' => e = .returned (.string ua) ∧ w' = W)) :
    Calls Tryd.prog 13 #[.agg #[.int .i64 1, .int .u8 on, .bool vb, .bool up, .bool qu, .bool det, .bool dat, .bool bare, .bool thin, .int .i64 kind, .int .i64 wh, .string anc, .string arc, .slice an nl nc]] w fun e w' => ∃ u, e = .returned (.agg #[.int .i64 1, .int .u8 115, .bool false, .bool false, .bool false, .bool det, .bool false, .bool false, .bool false, .int .i64 0, .int .i64 0, .string ⟨#[]⟩, .string ua, u]) ∧ OwnT w.heap.size w' u nms ∧ Below w.heap.size w w' := by
  obtain ⟨w1, hw1⟩ : ∃ w1, (w.alloc (.cells #[.int .i64 1, .int .u8 on, .bool vb, .bool up, .bool qu, .bool det, .bool dat, .bool bare, .bool thin, .int .i64 kind, .int .i64 wh, .string anc, .string arc, .slice an nl nc] 27)).alloc (.cells #[.int .i64 0, .int .u8 0, .bool false, .bool false, .bool false, .bool false, .bool false, .bool false, .bool false, .int .i64 0, .int .i64 0, .string ⟨#[]⟩, .string ⟨#[]⟩, .slice none 0 0] 27) = w1 := ⟨_, rfl⟩
  have hPc : w1.heap[w.heap.size]? = some (.cells #[.int .i64 1, .int .u8 on, .bool vb, .bool up, .bool qu, .bool det, .bool dat, .bool bare, .bool thin, .int .i64 kind, .int .i64 wh, .string anc, .string arc, .slice an nl nc] 27 (0, 0)) := by rw [← hw1]; exact hupK (heap_alloc_new w _) _
  have hPr : w1.heap[w.heap.size + 1]? = some (.cells #[.int .i64 0, .int .u8 0, .bool false, .bool false, .bool false, .bool false, .bool false, .bool false, .bool false, .int .i64 0, .int .i64 0, .string ⟨#[]⟩, .string ⟨#[]⟩, .slice none 0 0] 27 (0, 0)) := by rw [← hw1]; exact heap_new2K w _ _
  have hB1 : Below w.heap.size w w1 := by rw [← hw1]; exact (bupK (Below.refl _ _) _).alloc (by rw [World.size_alloc]; omega) _
  have hsz : w1.heap.size = w.heap.size + 2 := by rw [← hw1, World.size_alloc, World.size_alloc]
  have HPC := hidK hPc
  have HPR := hidK hPr
  have HSZ := hidK hsz
  have HV := hidK hR
  have x1 := cell_rowK hPc 1 _ rfl
  have x2 := cell_rowK hPc 2 _ rfl
  have x5 := cell_rowK hPc 5 _ rfl
  have x12 := cell_rowK hPc 12 _ rfl
  have hPd := heap_alloc_new w1 (.cells #[.int .i64 0, .int .u8 0, .bool false, .bool false, .bool false, .bool false, .bool false, .bool false, .bool false, .int .i64 0, .int .i64 0, .string ⟨#[]⟩, .string ⟨#[]⟩, .slice none 0 0] 27)
  have HB2 : Hid (∀ W, Kq w1.heap.size (w1.alloc (.cells #[.int .i64 0, .int .u8 0, .bool false, .bool false, .bool false, .bool false, .bool false, .bool false, .bool false, .int .i64 0, .int .i64 0, .string ⟨#[]⟩, .string ⟨#[]⟩, .slice none 0 0] 27)) W → Below w1.heap.size w1 W) := fun W q => q.belowN (bupK (Below.refl _ _) _) (Nat.le_refl _) (Nat.le_refl _)
  clear hPc hPr hsz hR
  go_enter Tryd.func13, Tryd.ntmps13
  go_upto_region 1 with fail
  try rw [hw1]
  clear hw1
  go_upto_region 2 with (refine wpList_store_kz rfl rfl _ _ _ rfl w1.heap.size 0 (.agg #[.int .i64 0, .int .u8 on, .bool vb, .bool false, .bool false, .bool det, .bool false, .bool false, .bool false, .int .i64 0, .int .i64 0, .string ⟨#[]⟩, .string arc, .slice none 0 0]) rfl rfl _ _ #[.int .i64 0, .int .u8 on, .bool vb, .bool false, .bool false, .bool det, .bool false, .bool false, .bool false, .int .i64 0, .int .i64 0, .string ⟨#[]⟩, .string arc, .slice none 0 0] hPd (by kernel_rfl) rfl rfl rfl ?_; intro W2 S2 q2)
  have b2 := HB2.out W2 q2
  clear hPd HB2 q2 x1 x2 x5 x12
  have y13 := cell_rowK S2 13 _ rfl
  have x13 := cell_rowK (hkeepK b2 HPC.out) 13 _ rfl
  have hg2 : w1.heap.size < W2.heap.size := (Array.getElem?_eq_some_iff.1 S2).1
  have r2 := (HV.out.on hB1).on b2
  have HS2 := hidK S2
  go_upto_region 3 with (first
    | (refine wpT_all rfl (.tmp 16) (.tmp 18) rfl W2 W2.heap.size (.slice none 0 0) (.slice an nl nc) [] nms rfl rfl (ownT_nil _ _) r2 (by simp) (by omega) (Nat.le_refl _) (Below.refl _ _) ?_; intro v3 w3 o3 b3; obtain ⟨a3, k3, hv3⟩ := OwnT.form o3; rw [hv3] at o3 ⊢; have S3 := hkeepK b3 HS2.out; clear hv3)
    | (refine wpList_store_kz rfl rfl _ _ _ rfl w1.heap.size 13 (.slice a3 ([] ++ nms).length k3) rfl rfl _ _ #[.int .i64 0, .int .u8 on, .bool vb, .bool false, .bool false, .bool det, .bool false, .bool false, .bool false, .int .i64 0, .int .i64 0, .string ⟨#[]⟩, .string arc, .slice a3 ([] ++ nms).length k3] S3 (by kernel_rfl) rfl rfl rfl ?_; intro W4 S4 q4))
  obtain ⟨n3, hn3⟩ : ∃ n3, n3 = nms.length := ⟨_, rfl⟩
  have o4 : OwnT W2.heap.size W4 (.slice a3 n3 k3) nms := by
    rw [hn3]
    exact own_kqK (t := 27) o3 q4 (hkeepK b3 HS2.out) (by decide)
  have S4 : W4.heap[w1.heap.size]? = some (.cells #[.int .i64 0, .int .u8 on, .bool vb, .bool false, .bool false, .bool det, .bool false, .bool false, .bool false, .int .i64 0, .int .i64 0, .string ⟨#[]⟩, .string arc, .slice a3 n3 k3] 27 (0, 0)) := by rw [hn3]; exact S4
  have b4 : Below w1.heap.size w1 W4 := q4.belowN (bel3K b2 b3) (Nat.le_refl _) (Nat.le_refl _)
  have HO4 := hidK o4
  have HS40 := hidK S4
  have HB4 := hidK b4
  have HPC4 := hidK (hkeepK b4 HPC.out)
  have HPR4 := hidK (hkeepK b4 HPR.out)
  have hg4 : W2.heap.size ≤ W4.heap.size := Nat.le_trans b3.size q4.size
  have z1 := cell_rowK HPC4.out 1 _ rfl
  clear o3 b3 S3 q4 r2 x13 y13 b2 HS2 o4 b4 hn3
  go_upto_region 4 with (go_at_call 19; refine (H1.out _).mono ?_; rintro e w9 ⟨rfl, hw9⟩; rw [hw9]; clear hw9)
  go_upto_region 6 with (refine wpList_store_kz rfl rfl _ _ _ rfl w1.heap.size 1 (.int .u8 116) rfl rfl _ _ #[.int .i64 0, .int .u8 116, .bool vb, .bool false, .bool false, .bool det, .bool false, .bool false, .bool false, .int .i64 0, .int .i64 0, .string ⟨#[]⟩, .string arc, .slice a3 n3 k3] S4 (by kernel_rfl) rfl rfl rfl ?_; intro W6 S6 q6)
  have HS5 := hidK S6
  have HQ5 := hidK q6
  clear z1 S4 S6 q6 H1
  have x0 := cell_rowK (HQ5.out.keeps (by have := HSZ.out; omega) HPC4.out) 0 _ rfl
  have c5 := cell_rowK (HQ5.out.keeps (by have := HSZ.out; omega) HPC4.out) 5 _ rfl
  have c12 := cell_rowK (HQ5.out.keeps (by have := HSZ.out; omega) HPC4.out) 12 _ rfl
  have d13 := cell_rowK HS5.out 13 _ rfl
  have HR5 := hidK (HQ5.out.keeps (by have := HSZ.out; omega) HPR4.out)
  have KS : Hid (∀ W' : World, Kq (w.heap.size + 1) W6 W' → (fun w' : World => w'.cell? ⟨w.heap.size, 5, none⟩ = some (.bool det) ∧ w'.cell? ⟨w.heap.size, 12, none⟩ = some (.string arc) ∧ w'.cell? ⟨w1.heap.size, 13, none⟩ = some (.slice a3 n3 k3)) W') := fun W' q => ⟨cellQ15 c5 q (by omega), cellQ15 c12 q (by omega), cellQ15 d13 q (by have := HSZ.out; omega)⟩
  go_upto_region 7 with fail
  refine wp_region_noPanic ?_
  refine wp_region_held_drew (S := (fun w' : World => w'.cell? ⟨w.heap.size, 5, none⟩ = some (.bool det) ∧ w'.cell? ⟨w.heap.size, 12, none⟩ = some (.string arc) ∧ w'.cell? ⟨w1.heap.size, 13, none⟩ = some (.slice a3 n3 k3))) (by kernel_rfl) ⟨c5, c12, d13⟩ (fun hHeld => ?_)
  refine wpAnyH_take (i := 0) (oi := { dst := some 30, op := Op.fieldAddr 27 (Operand.tmp 1) 5, type := 0, pos := "plain.go:38", after := #[], guard := none }) (v := ?_) rfl (by kernel_rfl) (by kernel_rfl) (by kernel_rfl) (fun _ _ _ h => h) (Or.inl ⟨by rfl, ?_⟩) hHeld ?_
  rotate_left
  · intro w hSw; (try dsimp only at hSw); go_simp; try with_reducible rfl
  (try simp only [Act.put, List.setIfInBounds_toArray, List.set_cons_zero, List.set_cons_succ])
  refine wpAnyH_take (i := 1) (oi := { dst := some 31, op := Op.load 4 (Operand.tmp 30), type := 4, pos := "plain.go:38", after := #[{ on := 0, ground := Ground.data }], guard := none }) (v := ?_) rfl (by kernel_rfl) (by kernel_rfl) (by kernel_rfl) (fun _ _ _ h => h) (Or.inl ⟨by rfl, ?_⟩) hHeld ?_
  rotate_left
  · intro w hSw; (try dsimp only at hSw); go_simp; try with_reducible rfl
  (try simp only [Act.put, List.setIfInBounds_toArray, List.set_cons_zero, List.set_cons_succ])
  refine wpAnyH_take (i := 2) (oi := { dst := some 32, op := Op.fieldAddr 27 (Operand.tmp 1) 11, type := 0, pos := "plain.go:38", after := #[], guard := none }) (v := ?_) rfl (by kernel_rfl) (by kernel_rfl) (by kernel_rfl) (fun _ _ _ h => h) (Or.inl ⟨by rfl, ?_⟩) hHeld ?_
  rotate_left
  · intro w hSw; (try dsimp only at hSw); go_simp; try with_reducible rfl
  (try simp only [Act.put, List.setIfInBounds_toArray, List.set_cons_zero, List.set_cons_succ])
  refine wpAnyH_take (i := 3) (oi := { dst := some 33, op := Op.load 9 (Operand.tmp 32), type := 9, pos := "plain.go:38", after := #[{ on := 2, ground := Ground.data }], guard := none }) (v := ?_) rfl (by kernel_rfl) (by kernel_rfl) (by kernel_rfl) (fun _ _ _ h => h) (Or.inl ⟨by rfl, ?_⟩) hHeld ?_
  rotate_left
  · intro w hSw; (try dsimp only at hSw); go_simp; try with_reducible rfl
  (try simp only [Act.put, List.setIfInBounds_toArray, List.set_cons_zero, List.set_cons_succ])
  refine wpAnyH_take (i := 5) (oi := { dst := some 35, op := Op.fieldAddr 27 (Operand.tmp 3) 12, type := 0, pos := "plain.go:38", after := #[], guard := none }) (v := ?_) rfl (by kernel_rfl) (by kernel_rfl) (by kernel_rfl) (fun _ _ _ h => h) (Or.inl ⟨by rfl, ?_⟩) hHeld ?_
  rotate_left
  · intro w hSw; (try dsimp only at hSw); go_simp; try with_reducible rfl
  (try simp only [Act.put, List.setIfInBounds_toArray, List.set_cons_zero, List.set_cons_succ])
  refine wpAnyH_take (i := 6) (oi := { dst := some 36, op := Op.load 22 (Operand.tmp 35), type := 22, pos := "plain.go:38", after := #[{ on := 5, ground := Ground.data }], guard := none }) (v := ?_) rfl (by kernel_rfl) (by kernel_rfl) (by kernel_rfl) (fun _ _ _ h => h) (Or.inl ⟨by rfl, ?_⟩) hHeld ?_
  rotate_left
  · intro w hSw; (try dsimp only at hSw); go_simp; try with_reducible rfl
  (try simp only [Act.put, List.setIfInBounds_toArray, List.set_cons_zero, List.set_cons_succ])
  refine wpAnyH_ready (rs := [4]) (by kernel_rfl) (by simp) (AllReadyH.cons (o := { dst := some 34, op := Op.call { callee := Callee.value (Operand.func 20), args := #[Operand.tmp 33], argTypes := #[9] }, type := 9, pos := "plain.go:38", after := #[{ on := 3, ground := Ground.data }], guard := none }) rfl (fun K hK => ?_) AllReadyH.nil)
  refine ready_call1 (r := .string ua) rfl rfl rfl (HU.out _) (enters_of Tryd.func20 (by kernel_rfl) rfl) ?_
  refine hK.out _ _ hHeld (fun hHeld => ?_)
  clear hK K
  (try simp only [Act.put, List.setIfInBounds_toArray, List.set_cons_zero, List.set_cons_succ])
  refine wpAnyH_take (i := 7) (oi := { dst := some 37, op := Op.build 27 #[(0, Operand.const (Value.int IntKind.i64 1)), (1, Operand.const (Value.int IntKind.u8 115)), (5, Operand.tmp 31), (11, Operand.tmp 34), (12, Operand.tmp 36)], type := 27, pos := "plain.go:38", after := #[{ on := 1, ground := Ground.data }, { on := 4, ground := Ground.data }, { on := 6, ground := Ground.data }], guard := none }) (v := ?_) rfl (by kernel_rfl) (by kernel_rfl) (by kernel_rfl) (fun _ _ _ h => h) (Or.inl ⟨by rfl, ?_⟩) hHeld ?_
  rotate_left
  · intro w hSw; (try dsimp only at hSw); go_simp; try with_reducible rfl
  (try simp only [Act.put, List.setIfInBounds_toArray, List.set_cons_zero, List.set_cons_succ])
  refine wpAnyH_ready (rs := [8]) (by kernel_rfl) (by simp) (AllReadyH.cons (o := { dst := none, op := Op.store 27 (Operand.tmp 2) (Operand.tmp 37), type := 0, pos := "plain.go:38", after := #[{ on := 7, ground := Ground.data }, { on := 4, ground := Ground.chain }, { on := 0, ground := Ground.phase }, { on := 1, ground := Ground.phase }, { on := 2, ground := Ground.phase }, { on := 3, ground := Ground.phase }, { on := 4, ground := Ground.phase }, { on := 5, ground := Ground.phase }, { on := 6, ground := Ground.phase }, { on := 7, ground := Ground.phase }], guard := none }) rfl (fun K hK => ?_) AllReadyH.nil)
  refine step_store15 rfl rfl _ _ _ rfl (w.heap.size + 1) 0 (.agg #[.int .i64 1, .int .u8 115, .bool false, .bool false, .bool false, .bool det, .bool false, .bool false, .bool false, .int .i64 0, .int .i64 0, .string ⟨#[]⟩, .string ua, .slice a3 n3 k3]) rfl rfl _ _ #[.int .i64 1, .int .u8 115, .bool false, .bool false, .bool false, .bool det, .bool false, .bool false, .bool false, .int .i64 0, .int .i64 0, .string ⟨#[]⟩, .string ua, .slice a3 n3 k3] HR5.out (by kernel_rfl) rfl rfl rfl ?_
  intro W8 S8 q8
  have q8 : Kq (w.heap.size + 1) W6 W8 := ⟨q8.os, q8.tape, q8.output, q8.size, q8.block⟩
  refine hK.out _ _ (KS.out _ q8) (fun hHeld => ?_)
  clear hK K
  (try simp only [Act.put, List.setIfInBounds_toArray, List.set_cons_zero, List.set_cons_succ])
  refine wpAnyH_done (by kernel_rfl) ?_ _
  refine NoPanic.normal ?_
  go_wp2
  refine bodyPost_ret (results_cell15 rfl _ _ (w.heap.size + 1) _ _ _ _ rfl S8 Tryd.underlying27 rfl sizeCm) rfl ?_
  refine ⟨_, rfl, ?_, ?_⟩
  · exact OwnT.le (own_kqK (t := 27) (own_kqK (t := 27) HO4.out HQ5.out HS40.out (by decide)) q8 HR5.out (by decide)) (Nat.le_trans hB1.size (Nat.le_trans (by have := HSZ.out; omega) (Nat.le_of_lt hg2)))
  · exact q8.belowN (HQ5.out.belowN (hB1.trans (HB4.out.mono hB1.size)) hB1.size (Nat.le_refl _)) (by omega) (Nat.le_refl _)
end Go.Proofs.YtmhamlhmmkbkaaaDoor
