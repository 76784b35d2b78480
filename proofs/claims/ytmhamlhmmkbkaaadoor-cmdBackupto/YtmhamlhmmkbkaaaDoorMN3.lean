
-- misfit, its marks: a stage.
import Derived.Test.YtmhamlhmmkbkaaaDoorMA3
import Derived.Test.YtmhamlhmmkbkaaaDoorMX4
namespace Go.Proofs.YtmhamlhmmkbkaaaDoor
open Go.ChangeShapes Go.WideShapes Go.ChangeAt Go.RowKit Go.MapKept Go.Shelf
set_option linter.unusedVariables false
set_option maxRecDepth 100000
set_option linter.unusedSimpArgs false
set_option maxHeartbeats 40000000 in
theorem mx_N3 (w : World) (prog on kind wh : Int) (vb up qu det dat bare thin : Bool) (anc arc p : ByteArray) (an : Option Addr) (nl nc : Nat) (mv pu ch pb : Bool) (Q : Exit → Act → World → Prop) (hQ : ∀ c a d v w, Q (.panic c) (Act.put a d v) w → Q (.panic c) a w) (hfin : ∀ W9, W9.heap[w.heap.size + 1]? = some (.cells #[.string p, .bool (pb && !mv), .string ⟨#[117]⟩, .bool (up && (on != 114)), .string ⟨#[117]⟩, .bool (up && det), .string ⟨#[84]⟩, .bool (thin && !pu), .string ⟨#[84]⟩, .bool (thin && (kind == 2)), .string ⟨#[111]⟩, .bool (dat && (on != 120)), .string ⟨#[99]⟩, .bool (qu && !pu), .string ⟨#[83]⟩, .bool (bare && !ch)] 72 (0, 0)) → mxS w on kind up qu det dat bare thin W9 → Q .normal (mxF4 w prog on kind wh vb up qu det dat bare thin anc arc p an nl nc mv pu ch pb (.pointer (some ⟨w.heap.size + 1, 0, none⟩))) W9) (H1 : Hid (∀ W, Calls Tryd.prog 27 #[.int .u8 on, .string ⟨#[109, 114]⟩] W fun e w' => e = .returned (.bool mv) ∧ w' = W)) (H2 : Hid (∀ W, Calls Tryd.prog 27 #[.int .u8 on, .string ⟨#[114, 113]⟩] W fun e w' => e = .returned (.bool pu) ∧ w' = W)) (H3 : Hid (∀ W, Calls Tryd.prog 27 #[.int .u8 on, .string ⟨#[100, 109, 113, 114]⟩] W fun e w' => e = .returned (.bool ch) ∧ w' = W)) (HE27 : Hid (Enters Tryd.prog 27)) (hpb : p.toList.isEmpty = !pb) (W : World) (hsz : W.heap.size = w.heap.size + 1) (hS : mxS w on kind up qu det dat bare thin W) :
    wpAnyH Tryd.prog .any mxOps Q (mxS w on kind up qu det dat bare thin) 7 #[true, true, true, true, true, true, true, true, true, true, true, true, true, true, true, true, true, true, true, true, true, true, true, true, true, true, true, true, true, true, true, true, true, true, true, true, true, true, true, true, true, true, true, true, true, true, true, true, true, true, true, true, true, true, true, true, true, true, true, true, true, true, true, true, false, false, false, false, false, false, false] (mxF3 w prog on kind wh vb up qu det dat bare thin anc arc p an nl nc mv pu ch pb undef) W := by
  unfold mxF3
  refine wpAnyH_ready (rs := [64, 69]) (by kernel_rfl) (by simp) ?_
  refine AllReadyH.cons (o := { dst := some 72, op := Op.call { callee := Callee.value (Operand.func 27), args := #[Operand.tmp 71, Operand.const (Value.string { data := #[100, 109, 113, 114] })], argTypes := #[5, 9] }, type := 4, pos := "mix.go:28", after := #[{ on := 63, ground := Ground.data }, { on := 61, ground := Ground.chain }, { on := 61, ground := Ground.guard }], guard := some (61, true) }) rfl (fun K hK => ?_) ?_
  · refine ready_callG (u := bare) (r := .bool ch) (by cases bare <;> rfl) rfl (fun hu => by subst hu; exact H3.out _) (fun hu => by subst hu; rfl) (fun hu => by subst hu; rfl) HE27.out ?_
    refine hK.out _ _ hS (fun _ => ?_)
    clear hK K
    (try simp only [Act.put, List.setIfInBounds_toArray, List.set_cons_zero, List.set_cons_succ])
    refine wpAnyH_take (i := 65) (oi := { dst := some 73, op := Op.unOp UnOp.not 4 (Operand.tmp 72), type := 4, pos := "mix.go:20", after := #[{ on := 64, ground := Ground.data }, { on := 61, ground := Ground.guard }], guard := some (61, true) }) (v := cond bare (.bool (!ch)) undef) rfl (by kernel_rfl) (by kernel_rfl) (by kernel_rfl) (fun _ _ _ h => hQ _ _ _ _ _ h) (by cases bare with | false => exact Or.inr ⟨rfl, rfl⟩ | true => exact Or.inl ⟨rfl, fun w hSw => by unfold mxS at hSw; go_simp⟩) hS ?_
    (try simp only [Act.put, List.setIfInBounds_toArray, List.set_cons_zero, List.set_cons_succ])
    refine wpAnyH_take (i := 66) (oi := { dst := some 74, op := Op.pick (Operand.tmp 69) (Operand.tmp 73) (Operand.const (Value.bool false)), type := 4, pos := "mix.go:20", after := #[{ on := 61, ground := Ground.data }, { on := 65, ground := Ground.data }], guard := none }) (v := .bool (bare && !ch)) rfl (by kernel_rfl) (by kernel_rfl) (by kernel_rfl) (fun _ _ _ h => hQ _ _ _ _ _ h) (by cases bare <;> exact Or.inl ⟨rfl, fun w hSw => by go_simp⟩) hS ?_
    (try simp only [Act.put, List.setIfInBounds_toArray, List.set_cons_zero, List.set_cons_succ])
    refine wpAnyH_take (i := 67) (oi := { dst := some 75, op := Op.build 67 #[(0, Operand.const (Value.string { data := #[83] })), (1, Operand.tmp 74)], type := 67, pos := "mix.go:20", after := #[{ on := 66, ground := Ground.data }], guard := none }) (v := .agg #[.string ⟨#[83]⟩, .bool (bare && !ch)]) rfl (by kernel_rfl) (by kernel_rfl) (by kernel_rfl) (fun _ _ _ h => hQ _ _ _ _ _ h) (Or.inl ⟨rfl, fun w hSw => by unfold mxS at hSw; go_simp⟩) hS ?_
    (try simp only [Act.put, List.setIfInBounds_toArray, List.set_cons_zero, List.set_cons_succ])
    refine wpAnyH_take (i := 68) (oi := { dst := some 76, op := Op.build 72 #[(0, Operand.tmp 17), (1, Operand.tmp 25), (2, Operand.tmp 32), (3, Operand.tmp 41), (4, Operand.tmp 49), (5, Operand.tmp 57), (6, Operand.tmp 66), (7, Operand.tmp 75)], type := 72, pos := "mix.go:20", after := #[{ on := 9, ground := Ground.data }, { on := 17, ground := Ground.data }, { on := 24, ground := Ground.data }, { on := 33, ground := Ground.data }, { on := 41, ground := Ground.data }, { on := 49, ground := Ground.data }, { on := 58, ground := Ground.data }, { on := 67, ground := Ground.data }], guard := none }) (v := .agg #[.string p, .bool (pb && !mv), .string ⟨#[117]⟩, .bool (up && (on != 114)), .string ⟨#[117]⟩, .bool (up && det), .string ⟨#[84]⟩, .bool (thin && !pu), .string ⟨#[84]⟩, .bool (thin && (kind == 2)), .string ⟨#[111]⟩, .bool (dat && (on != 120)), .string ⟨#[99]⟩, .bool (qu && !pu), .string ⟨#[83]⟩, .bool (bare && !ch)]) rfl (by kernel_rfl) (by kernel_rfl) (by kernel_rfl) (fun _ _ _ h => hQ _ _ _ _ _ h) (Or.inl ⟨rfl, fun w hSw => by unfold mxS at hSw; go_simp⟩) hS ?_
    (try simp only [Act.put, List.setIfInBounds_toArray, List.set_cons_zero, List.set_cons_succ])
    exact mx_N4 w prog on kind wh vb up qu det dat bare thin anc arc p an nl nc mv pu ch pb Q hQ hfin H1 H2 H3 HE27 hpb W hsz hS
  refine AllReadyH.cons (o := { dst := some 5, op := Op.alloc 72, type := 0, pos := "mix.go:20", after := #[], guard := none }) rfl (fun K hK => ?_) ?_
  · go_simp
    have HP5 : (W.alloc (.cells #[.string ⟨#[]⟩, .bool false, .string ⟨#[]⟩, .bool false, .string ⟨#[]⟩, .bool false, .string ⟨#[]⟩, .bool false, .string ⟨#[]⟩, .bool false, .string ⟨#[]⟩, .bool false, .string ⟨#[]⟩, .bool false, .string ⟨#[]⟩, .bool false] 72)).heap[w.heap.size + 1]? = some (.cells #[.string ⟨#[]⟩, .bool false, .string ⟨#[]⟩, .bool false, .string ⟨#[]⟩, .bool false, .string ⟨#[]⟩, .bool false, .string ⟨#[]⟩, .bool false, .string ⟨#[]⟩, .bool false, .string ⟨#[]⟩, .bool false, .string ⟨#[]⟩, .bool false] 72 (0, 0)) := by rw [← hsz]; exact heap_alloc_new W _
    refine hK.out _ _ (mxS_A hS _) (fun hS => ?_)
    clear hK K
    (try simp only [Act.put, List.setIfInBounds_toArray, List.set_cons_zero, List.set_cons_succ])
    exact mx_A3 w prog on kind wh vb up qu det dat bare thin anc arc p an nl nc mv pu ch pb Q hQ hfin H1 H2 H3 HE27 hpb _ HP5 hS
  exact AllReadyH.nil
end Go.Proofs.YtmhamlhmmkbkaaaDoor
